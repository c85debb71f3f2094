/- Series in memory; streams of chunks. -/
import Derived.Test.YtfgfkifdokeefaaDoorLabEnc
import Derived.Test.YtfgfkifdokeefaaDoorCodDec
import Derived.Test.YtfgfkifdokeefaaDoorPutWalk
namespace Go.Proofs.YtfgfkifdokeefaaDoor
open Go.RowKit Go.Joins
open Cd (Sam Sm canS encS samD SamOK IsPack BitsTab DbTab)
set_option linter.unusedVariables false

structure Ser where
  la : Option Addr
  ll : Nat
  lc : Nat
  ls : List Lab
  sa : Option Addr
  sl : Nat
  sc : Nat
  sm : List Sam

def Ser.cells (s : Ser) : List Value := [.slice s.la s.ll s.lc, .slice s.sa s.sl s.sc]

/-- What is known of a series' two slices. -/
def Ser.ok (w : World) (s : Ser) : Prop := Ls w s.la s.ll s.ls ∧ s.ll ≤ 140737488355328 ∧ Sm w s.sa s.sl s.sm ∧ s.sl ≤ s.sc ∧ s.sc ≤ maxLen

theorem Ser.ok.below {w w' : World} {s : Ser} (h : s.ok w) (hb : Below w.heap.size w w') : s.ok w' := ⟨h.1.below hb, h.2.1, h.2.2.1.below hb, h.2.2.2⟩

/-- A slice of series. -/
def Srs (w : World) (a : Option Addr) (len : Nat) (l : List Ser) : Prop :=
  l.length = len ∧ len ≤ maxLen ∧ (a = none → len = 0) ∧ (∀ s ∈ l, s.ok w) ∧ ∀ x, a = some x → ∀ j s, l[j]? = some s → ∀ k v, s.cells[k]? = some v → w.cell? (x.add (j * 2 + k)) = some v

theorem Srs.below {w w' : World} {a : Option Addr} {len : Nat} {l : List Ser} (h : Srs w a len l) (hb : Below w.heap.size w w') : Srs w' a len l := by
  obtain ⟨h1, h2, h3, h4, h5⟩ := h
  refine ⟨h1, h2, h3, fun s hs => (h4 s hs).below hb, fun x hx j s hs k v hv => ?_⟩
  have := h5 x hx j s hs k v hv
  exact (hb.cell (block_lt_of_cell this)).trans this

theorem Srs.at {w : World} {a : Option Addr} {len j : Nat} {l : List Ser} {s : Ser} (h : Srs w a len l) (hs : l[j]? = some s) :
    ∃ b off, a = some ⟨b, off, none⟩ ∧ b < w.heap.size ∧ w.cell? ⟨b, off + j * 2, none⟩ = some (.slice s.la s.ll s.lc) ∧ w.cell? ⟨b, off + j * 2 + 1, none⟩ = some (.slice s.sa s.sl s.sc) ∧ s.ok w := by
  obtain ⟨h1, h2, h3, h4, h5⟩ := h
  have hjl : j < l.length := (List.getElem?_eq_some_iff.1 hs).1
  cases a with
  | none => have := h3 rfl; omega
  | some x =>
    obtain ⟨b, off, spot⟩ := x
    obtain ⟨s0, hs0⟩ : ∃ s0, l[0]? = some s0 := ⟨_, List.getElem?_eq_getElem (by omega)⟩
    have hspot : spot = none := by simpa [Addr.add] using World.cell?_spot (h5 _ rfl 0 s0 hs0 0 _ rfl)
    subst hspot
    have h := h5 _ rfl j s hs
    have e : ∀ k, (⟨b, off, none⟩ : Addr).add (j * 2 + k) = ⟨b, off + j * 2 + k, none⟩ := fun k => by rw [ladd_none, Nat.add_assoc]
    simp only [e] at h
    exact ⟨b, off, rfl, block_lt_of_cell (h 0 _ rfl), h 0 _ rfl, h 1 _ rfl, h4 s (List.mem_of_getElem? hs)⟩

/-- A chunk's bytes, of labels and packed samples. -/
def chunkB (ls : List Lab) (p : List Nat) : List Nat := putB ((encN ls).length + p.length) 4 ++ (encN ls ++ p)

/-- The bytes are the stream of these chunks. -/
def IsStream : List (List Lab × List Sam) → List Nat → Prop
  | [], zs => zs = []
  | c :: cs, zs => ∃ p r, IsPack p (encS c.2) ∧ zs = chunkB c.1 p ++ r ∧ IsStream cs r

theorem IsStream.snoc {ls : List Lab} {sm : List Sam} {p : List Nat} (hp : IsPack p (encS sm)) : ∀ {cs : List (List Lab × List Sam)} {zs : List Nat}, IsStream cs zs → IsStream (cs ++ [(ls, sm)]) (zs ++ chunkB ls p) := by
  intro cs
  induction cs with
  | nil => intro zs h; obtain rfl : zs = [] := h; exact ⟨p, [], hp, by simp, rfl⟩
  | cons c cs ih =>
    intro zs h
    obtain ⟨q, r, hq, rfl, hr⟩ := h
    exact ⟨q, r ++ chunkB ls p, hq, by rw [List.append_assoc], ih hr⟩

theorem IsStream.unique : ∀ {cs : List (List Lab × List Sam)} {zs ys : List Nat}, IsStream cs zs → IsStream cs ys → zs = ys := by
  intro cs
  induction cs with
  | nil => intro zs ys h h'; obtain rfl : zs = [] := h; obtain rfl : ys = [] := h'; rfl
  | cons c cs ih =>
    intro zs ys h h'
    obtain ⟨q, r, hq, rfl, hr⟩ := h
    obtain ⟨q', r', hq', rfl, hr'⟩ := h'
    rw [hq.unique hq', ih hr hr']

theorem pack_len {p : List Nat} {sm : List Sam} (h : IsPack p (encS sm)) (hs : sm.length ≤ 65535) : 2 ≤ p.length ∧ p.length ≤ 1300000 := by
  have h1 := h.1
  have h2 := Cd.encTo_len sm sm.length
  have h3 : (encS sm).length ≤ 16 + 150 * sm.length := h2
  have h4 : 16 ≤ (encS sm).length := Cd.encS_len16 sm
  unfold Cd.nb at h1
  omega

theorem encN_pos (ls : List Lab) : 0 < (encN ls).length := by
  have : ∀ k, 0 < (encTo ls k).length := by
    intro k
    induction k with
    | zero => simp [encTo]
    | succ k ih => simp only [encTo, List.length_append]; omega
  exact this _

theorem bs_cells {w : World} {b off len : Nat} {zs : List Nat} (h : Bs w (some ⟨b, off, none⟩) len zs) : ∀ j u, (vb zs)[j]? = some u → w.cell? ((⟨b, off, none⟩ : Addr).add j) = some u := by
  intro j u hj
  have hjl : j < zs.length := by have := (List.getElem?_eq_some_iff.1 hj).1; simpa [vb] using this
  rw [h.2.2.2.2 _ rfl j (by rw [← h.1]; exact hjl)]
  rw [← hj]
  simp [vb, List.getD_eq_getElem?_getD, List.getElem?_eq_getElem hjl]

theorem vb_cell (zs : List Nat) : ∀ u ∈ vb zs, u.oneCell' = true := by
  intro u hu
  unfold vb at hu
  obtain ⟨x, _, rfl⟩ := List.mem_map.1 hu
  rfl

theorem own_skip {w w' : World} {base e size n : Nat} {v : Value} {xs : List Value} (h : w.ownsRow base e size v n xs) (hb : Below w.heap.size w w') : w'.ownsRow base e size v n xs := by
  refine ⟨h.1, ?_⟩
  rcases h.2 with hn | ⟨g, cap, cur, rfl, hbb, hgg, rest⟩
  · exact .inl hn
  · exact .inr ⟨g, cap, cur, rfl, hbb, by rw [hb.block g (Array.getElem?_eq_some_iff.1 hgg).1]; exact hgg, rest⟩

theorem own_slice {w : World} {base e size n : Nat} {v : Value} {xs : List Value} (h : w.ownsRow base e size v n xs) : ∃ a c, v = .slice a n c := by
  rcases h.2 with ⟨h1, h2⟩ | ⟨g, cap, cur, h1, _⟩
  · exact ⟨none, 0, by rw [h1, h2]⟩
  · exact ⟨_, _, h1⟩

end Go.Proofs.YtfgfkifdokeefaaDoor
