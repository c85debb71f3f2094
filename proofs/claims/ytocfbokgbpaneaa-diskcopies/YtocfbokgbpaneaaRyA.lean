/- The document's disk (dryrotref03): what it is in memory, and its small calls. -/
import Derived.Test.YtocfbokgbpaneaaDiskDef
import Derived.Test.YtocfbokgbpaneaaMb
import Derived.Test.YtocfbokgbpaneaaMc
import Derived.Test.YtocfbokgbpaneaaStrClone
import Derived.Test.YtocfbokgbpaneaaDrawn
import Derived.Sort.Walk0
namespace Go.Proofs.Ytocfbokgbpaneaa
open Go.RowKit Go.Maps
set_option linter.unusedVariables false

/-- An extent with the places of its four images. -/
structure Yc where
  x : Ext
  q0 : Nat × Nat
  q1 : Nat × Nat
  q2 : Nat × Nat
  q3 : Nat × Nat

abbrev im (q : Nat × Nat) : Value := .slice (some ⟨q.1, 0, none⟩) 128 q.2
def Yc.cells (c : Yc) : List Value := [im c.q0, im c.q1, im c.q2, im c.q3, .bool c.x.waits]

/-- A file: its name, where its extents lie, the extents. -/
structure Yf where
  name : ByteArray
  g : Nat
  c : Nat
  l : List Yc

def Yf.row (f : Yf) : Value := .slice (some ⟨f.g, 0, none⟩) f.l.length f.c
def Yf.cells (f : Yf) : List Value := [.string f.name, f.row]

def cellsR (R : List Yf) : List Value := R.flatMap Yf.cells
def cellsC (l : List Yc) : List Value := l.flatMap Yc.cells

def Im (w : World) (q : Nat × Nat) (zs : List Nat) : Prop := w.ownsRow 0 5 1 (im q) 128 (vb zs)

structure RyOf (w : World) (y : Nat) (F : Nat → Prop) (fa : Option Addr) (fc : Nat) (R : List Yf) (room fuse : Int) : Prop where
  disk : w.heap[y]? = some (.cells #[.int .i64 room, .slice fa R.length fc, .int .i64 fuse] 52 (0, 0))
  files : w.ownsRow 0 55 2 (.slice fa R.length fc) R.length (cellsR R)
  rows : ∀ f ∈ R, w.ownsRow 0 57 5 f.row f.l.length (cellsC f.l)
  ims : ∀ f ∈ R, ∀ c ∈ f.l, Im w c.q0 c.x.rd ∧ Im w c.q1 c.x.dur ∧ Im w c.q2 c.x.syn ∧ Im w c.q3 c.x.wri
  ok : ∀ f ∈ R, f.name.size ≤ 24 ∧ f.l ≠ [] ∧ ∀ c ∈ f.l, c.x.ok
  apart : (R.map Yf.g).Nodup
  fy : F y
  ff : ∀ x, fa = some x → F x.block
  fr : ∀ f ∈ R, F f.g
  fi : ∀ f ∈ R, ∀ c ∈ f.l, F c.q0.1 ∧ F c.q1.1 ∧ F c.q2.1 ∧ F c.q3.1

theorem cellsR_length (R : List Yf) : (cellsR R).length = R.length * 2 := by
  unfold cellsR
  induction R with
  | nil => rfl
  | cons f r ih => rw [List.flatMap_cons, List.length_append, ih, List.length_cons]; simp [Yf.cells]; omega

theorem cellsC_length (l : List Yc) : (cellsC l).length = l.length * 5 := by
  unfold cellsC
  induction l with
  | nil => rfl
  | cons f r ih => rw [List.flatMap_cons, List.length_append, ih, List.length_cons]; simp [Yc.cells]; omega

theorem cellsR_at : ∀ (R : List Yf) (k : Nat) (f : Yf), R[k]? = some f → ∀ j < 2, (cellsR R)[k * 2 + j]? = f.cells[j]?
  | a :: r, 0, f, h, j, hj => by
    obtain rfl : a = f := by simpa using h
    show (a.cells ++ cellsR r)[0 * 2 + j]? = _
    rw [List.getElem?_append_left (by show 0 * 2 + j < 2; omega), Nat.zero_mul, Nat.zero_add]
  | a :: r, k + 1, f, h, j, hj => by
    show (a.cells ++ cellsR r)[(k + 1) * 2 + j]? = _
    rw [List.getElem?_append_right (by show 2 ≤ _; omega), show (k + 1) * 2 + j - a.cells.length = k * 2 + j from by show (k + 1) * 2 + j - 2 = _; omega]
    exact cellsR_at r k f (by simpa using h) j hj

theorem cellsC_at : ∀ (R : List Yc) (k : Nat) (f : Yc), R[k]? = some f → ∀ j < 5, (cellsC R)[k * 5 + j]? = f.cells[j]?
  | a :: r, 0, f, h, j, hj => by
    obtain rfl : a = f := by simpa using h
    show (a.cells ++ cellsC r)[0 * 5 + j]? = _
    rw [List.getElem?_append_left (by show 0 * 5 + j < 5; omega), Nat.zero_mul, Nat.zero_add]
  | a :: r, k + 1, f, h, j, hj => by
    show (a.cells ++ cellsC r)[(k + 1) * 5 + j]? = _
    rw [List.getElem?_append_right (by show 5 ≤ _; omega), show (k + 1) * 5 + j - a.cells.length = k * 5 + j from by show (k + 1) * 5 + j - 5 = _; omega]
    exact cellsC_at r k f (by simpa using h) j hj

theorem im_block (q : Nat × Nat) : (im q).ownBlock = some q.1 := rfl

theorem own_other {w w' : World} {base e size n : Nat} {v : Value} {xs : List Value} (h : w.ownsRow base e size v n xs) (hb : ∀ g, v.ownBlock = some g → w'.heap[g]? = w.heap[g]?) : w'.ownsRow base e size v n xs := by
  obtain ⟨hl, h1⟩ := h
  refine ⟨hl, ?_⟩
  rcases h1 with h1 | ⟨g, cap, cur, hv, hg, hh, r⟩
  · exact .inl h1
  · exact .inr ⟨g, cap, cur, hv, hg, (hb g (by rw [hv]; rfl)).trans hh, r⟩

theorem slice_own {a : Option Addr} {n c g : Nat} (h : (Value.slice a n c).ownBlock = some g) : ∃ x, a = some x ∧ x.block = g := by
  cases a with
  | none => cases h
  | some x =>
    obtain ⟨b, off, sp⟩ := x
    exact ⟨_, rfl, by simpa [Value.ownBlock] using h⟩

/-- All that it lies in is as it was. -/
theorem RyOf.other {w w' : World} {y : Nat} {F : Nat → Prop} {fa : Option Addr} {fc : Nat} {R : List Yf} {room fuse : Int} (h : RyOf w y F fa fc R room fuse) (hb : ∀ k, F k → w'.heap[k]? = w.heap[k]?) : RyOf w' y F fa fc R room fuse where
  disk := (hb y h.fy).trans h.disk
  files := own_other h.files (fun g hg => by obtain ⟨x, hx, e⟩ := slice_own hg; rw [← e]; exact hb _ (h.ff x hx))
  rows := fun f hf => own_other (h.rows f hf) (fun g hg => by
    obtain rfl : f.g = g := by simpa [Yf.row, Value.ownBlock] using hg
    exact hb _ (h.fr f hf))
  ims := fun f hf c hc => by
    obtain ⟨a0, a1, a2, a3⟩ := h.ims f hf c hc
    obtain ⟨b0, b1, b2, b3⟩ := h.fi f hf c hc
    exact ⟨own_other a0 (fun g hg => by cases hg; exact hb _ b0), own_other a1 (fun g hg => by cases hg; exact hb _ b1), own_other a2 (fun g hg => by cases hg; exact hb _ b2), own_other a3 (fun g hg => by cases hg; exact hb _ b3)⟩
  ok := h.ok
  apart := h.apart
  fy := h.fy
  ff := h.ff
  fr := h.fr
  fi := h.fi

theorem own_lt {w : World} {base e size n : Nat} {v : Value} {xs : List Value} (h : w.ownsRow base e size v n xs) (g : Nat) (hg : v.ownBlock = some g) : g < w.heap.size := (h.lt g hg).2

/-- A disk whose blocks all lie in memory. -/
theorem RyOf.below {w w' : World} {y : Nat} {F : Nat → Prop} {fa : Option Addr} {fc : Nat} {R : List Yf} {room fuse : Int} (h : RyOf w y F fa fc R room fuse) (hF : ∀ k, F k → k < w.heap.size) (hb : Below w.heap.size w w') : RyOf w' y F fa fc R room fuse :=
  h.other (fun k hk => hb.block k (hF k hk))

/-- A file's cells in the row of files. -/
theorem RyOf.at {w : World} {y : Nat} {F : Nat → Prop} {fa : Option Addr} {fc : Nat} {R : List Yf} {room fuse : Int} (h : RyOf w y F fa fc R room fuse) {k : Nat} {f : Yf} (hk : R[k]? = some f) :
    ∃ g, fa = some ⟨g, 0, none⟩ ∧ F g ∧ w.cell? ⟨g, k * 2, none⟩ = some (.string f.name) ∧ w.cell? ⟨g, k * 2 + 1, none⟩ = some f.row := by
  have hlt := (List.getElem?_eq_some_iff.1 hk).1
  rcases h.files.2 with ⟨_, h0⟩ | ⟨g, cap, cur, hv, _, hg, _⟩
  · omega
  · obtain ⟨rfl, _, _⟩ : fa = some ⟨g, 0, none⟩ ∧ R.length = R.length ∧ fc = cap := by simpa using hv
    have hc := h.files.cells (g := g) rfl
    refine ⟨g, rfl, h.ff _ rfl, ?_, ?_⟩
    · have h1 := hc (k * 2 + 0) (.string f.name) (by rw [cellsR_at R k f hk 0 (by omega)]; rfl)
      rw [add_none] at h1
      simpa using h1
    · have h1 := hc (k * 2 + 1) f.row (by rw [cellsR_at R k f hk 1 (by omega)]; rfl)
      rw [add_none] at h1
      simpa using h1

/-- An extent's cells in a file's row. -/
theorem RyOf.ext {w : World} {y : Nat} {F : Nat → Prop} {fa : Option Addr} {fc : Nat} {R : List Yf} {room fuse : Int} (h : RyOf w y F fa fc R room fuse) {f : Yf} (hf : f ∈ R) {i : Nat} {c : Yc} (hi : f.l[i]? = some c) :
    w.cell? ⟨f.g, i * 5, none⟩ = some (im c.q0) ∧ w.cell? ⟨f.g, i * 5 + 1, none⟩ = some (im c.q1) ∧ w.cell? ⟨f.g, i * 5 + 2, none⟩ = some (im c.q2) ∧ w.cell? ⟨f.g, i * 5 + 3, none⟩ = some (im c.q3) ∧ w.cell? ⟨f.g, i * 5 + 4, none⟩ = some (.bool c.x.waits) := by
  have hc := (h.rows f hf).cells (g := f.g) rfl
  have key : ∀ j v, j < 5 → c.cells[j]? = some v → w.cell? ⟨f.g, i * 5 + j, none⟩ = some v := fun j v hj hv => by
    have h1 := hc (i * 5 + j) v (by rw [cellsC_at f.l i c hi j hj]; exact hv)
    rw [add_none] at h1
    simpa using h1
  exact ⟨key 0 _ (by omega) rfl, key 1 _ (by omega) rfl, key 2 _ (by omega) rfl, key 3 _ (by omega) rfl, key 4 _ (by omega) rfl⟩

/-- Where a file lies among all. -/
def placeY (R : List Yf) (s : ByteArray) : Option Nat := R.findIdx? fun f => decide (f.name = s)
def placeI (R : List Yf) (s : ByteArray) : Int := match placeY R s with | some k => (k : Int) | none => -1

theorem place_yes {R : List Yf} {s : ByteArray} {k : Nat} {f : Yf} (hk : R[k]? = some f) (hs : f.name = s) (hno : ∀ j < k, ∀ f', R[j]? = some f' → f'.name ≠ s) : placeY R s = some k := by
  unfold placeY
  rw [List.findIdx?_eq_some_iff_getElem]
  have hlt := (List.getElem?_eq_some_iff.1 hk).1
  refine ⟨hlt, ?_, fun j hj => ?_⟩
  · have e : R[k] = f := (List.getElem?_eq_some_iff.1 hk).2
    simp [e, hs]
  · have := hno j hj R[j] (List.getElem?_eq_getElem (by omega))
    simpa using this

theorem place_no {R : List Yf} {s : ByteArray} (hno : ∀ j < R.length, ∀ f', R[j]? = some f' → f'.name ≠ s) : placeY R s = none := by
  unfold placeY
  rw [List.findIdx?_eq_none_iff]
  intro f hf
  obtain ⟨j, hj, e⟩ := List.mem_iff_getElem.1 hf
  have := hno j hj f (by rw [List.getElem?_eq_getElem hj, e])
  simpa using this

theorem place_at {R : List Yf} {s : ByteArray} {k : Nat} (h : placeY R s = some k) : ∃ f, R[k]? = some f ∧ f.name = s := by
  unfold placeY at h
  obtain ⟨hk, hp, _⟩ := List.findIdx?_eq_some_iff_getElem.1 h
  exact ⟨R[k], List.getElem?_eq_getElem hk, by simpa using hp⟩

theorem str_eq_dec (a b : ByteArray) : (a.toList == b.toList) = decide (a = b) := by
  rw [ByteArray.toList_eq, ByteArray.toList_eq]
  by_cases h : a = b
  · subst h; simp
  · rw [decide_eq_false h]
    refine beq_eq_false_iff_ne.2 fun e => h ?_
    cases a; cases b
    simp at e
    rw [e]

set_option maxHeartbeats 2000000 in
theorem place_any (w : World) (y : Nat) (F : Nat → Prop) (fa : Option Addr) (fc : Nat) (R : List Yf) (room fuse : Int) (h : RyOf w y F fa fc R room fuse) (hF : ∀ k, F k → k < w.heap.size) (s : ByteArray) (hR : R.length ≤ 1000000) :
    Calls Try.prog 45 #[.pointer (some ⟨y, 0, none⟩), .string s] w fun e w' => e = .returned (.int .i64 (placeI R s)) ∧ Below w.heap.size w w' := by
  have H := hidn h
  have HF := hidn hF
  have c1 : w.cell? ⟨y, 1, none⟩ = some (.slice fa R.length fc) := by rw [cell_of_row _ _ _ _ _ _ h.disk]; rfl
  obtain ⟨n, hn⟩ : ∃ n, n = R.length := ⟨_, rfl⟩
  rw [← hn] at c1 hR
  have HN := hidn hn
  clear h hF hn
  go_enter Try.func45, Try.ntmps45
  go_wp2_with fail
  clear c1
  go_loopw [12] (fun iv wr => ∃ k : Nat, k ≤ n ∧ iv = .int .i64 (k : Int) ∧ Hid (∀ j < k, ∀ f', R[j]? = some f' → f'.name ≠ s) ∧ Hid (Below w.heap.size w wr)) (fun iv _ => n - (intOf iv).toNat)
  case atStart => exact ⟨0, Nat.zero_le _, rfl, hidn (fun j hj => by omega), hidn (Below.refl _ _)⟩
  case round =>
    obtain ⟨k, hk, rfl, HNo, HB⟩ := hrel
    by_cases hlt : k < n
    · have hlt2 : (k : Int) < (n : Int) := by omega
      obtain ⟨f, hf⟩ : ∃ f, R[k]? = some f := ⟨_, List.getElem?_eq_getElem (by rw [← HN.out]; exact hlt)⟩
      obtain ⟨g, hfa, hFg, hc0, hc1⟩ := (H.out.below HF.out HB.out).at hf
      subst hfa
      obtain ⟨nm, hnm⟩ : ∃ nm, nm = f.name := ⟨_, rfl⟩
      obtain ⟨fv, hfv⟩ : ∃ fv, fv = f.row := ⟨_, rfl⟩
      rw [← hnm] at hc0
      rw [← hfv] at hc1
      have HFK := hidn hf
      have HNM := hidn hnm
      have hse := str_eq_dec nm s
      have hfvs : ∃ fg fl fcc, fv = .slice fg fl fcc := ⟨_, _, _, hfv⟩
      obtain ⟨fg, fl, fcc, rfl⟩ := hfvs
      clear hf hnm hfv hFg
      by_cases hs : nm = s
      · have hse' : (nm.toList == s.toList) = true := by rw [hse]; simpa using hs
        have HE := hidn hs
        clear hse hs
        go_wp2
        go_ret
        have hp : placeI R s = (k : Int) := by
          unfold placeI
          rw [place_yes HFK.out (by rw [← HNM.out]; exact HE.out) HNo.out]
        rw [hp]
        exact ⟨rfl, HB.out.alloc HB.out.size _⟩
      · have hse' : (nm.toList == s.toList) = false := by rw [hse]; simpa using hs
        have HNo2 : Hid (∀ j < k + 1, ∀ f', R[j]? = some f' → f'.name ≠ s) := hidn (fun j hj f' hf' => by
          by_cases e : j = k
          · subst e
            rw [HFK.out] at hf'
            cases hf'
            rw [← HNM.out]
            exact hs
          · exact HNo.out j (by omega) f' hf')
        clear hse hs
        go_wp2
        go_roundw
        case rel => exact ⟨k + 1, hlt, by simp, HNo2, hidn (HB.out.alloc HB.out.size _)⟩
        case measure => simp [intOf]; omega
    · have hlt2 : ¬ (k : Int) < (n : Int) := by omega
      have hkn : k = n := by omega
      have hp : placeI R s = -1 := by
        unfold placeI
        rw [place_no (fun j hj => HNo.out j (by rw [hkn, HN.out]; exact hj))]
      have HP := hidn hp
      clear hp hkn
      go_wp2
      go_ret
      rw [HP.out]
      exact ⟨rfl, HB.out⟩
end Go.Proofs.Ytocfbokgbpaneaa
