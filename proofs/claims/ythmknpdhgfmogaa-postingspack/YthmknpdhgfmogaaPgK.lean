/- postings.Unpack. -/
import Derived.Test.YthmknpdhgfmogaaPgJ
namespace Go.Proofs.Ythmknpdhgfmogaa
open Go.RowKit Go.Joins
set_option linter.unusedVariables false

def readL (zs : List Nat) : List Nat := (bodyS zs (shortP zs false).1).1

/-- The numbers that bytes say. -/
def unpP (zs : List Nat) : Option (List Nat) :=
  if readBig zs = true then none else if (bodyS zs (shortP zs false).1).2.2 = true then none else if canP (up (readL zs)) = true ∧ packB (readL zs) = zs then some (readL zs) else none

theorem readL_len (zs : List Nat) : (readL zs).length = (shortP zs false).1 := by
  unfold readL bodyS headS
  rw [runB_len, runH_len]
  simp

theorem dn_up (l : List Nat) : dn (up l) = l := by
  unfold dn up
  rw [List.map_map]
  conv => rhs; rw [← List.map_id l]
  exact List.map_congr_left fun x _ => Int.toNat_natCast x

theorem canP_riseN {l : List Nat} (h : canP (up l) = true) : RiseN l := by
  have := canP_rise h
  rw [dn_up] at this
  exact this

theorem unpP_spec {zs l : List Nat} (h : unpP zs = some l) : canP (up l) = true ∧ packB l = zs := by
  unfold unpP at h
  split at h
  · cases h
  · split at h
    · cases h
    · split at h
      · rename_i h1
        cases h
        exact h1
      · cases h

theorem ils_row {w : World} {g : Nat} {l : List Nat} (h : w.heap[g]? = some (.cells (ivN l).toArray 3 (0, 0))) (hl : l.length ≤ maxLen) : Ils w (some ⟨g, 0, none⟩) l.length (up l) := by
  refine ⟨up_len l, hl, (fun e => by cases e), fun x hx j y hj => ?_⟩
  cases hx
  have hj' : j < l.length := by have := (List.getElem?_eq_some_iff.1 hj).1; rw [up_len] at this; exact this
  rw [up_get hj'] at hj
  cases hj
  rw [add_none, Nat.zero_add, cell_of_row _ _ _ _ _ _ h, List.getElem?_toArray]
  exact ivN_get hj'

/-- What Unpack leaves. -/
def UnpQ (w : World) (zs : List Nat) (e : Ending) (w' : World) : Prop :=
  Below w.heap.size w w' ∧ ((unpP zs = none ∧ e = .returned (.tuple #[.slice none 0 0, .int .i64 5])) ∨
    ∃ l g, unpP zs = some l ∧ w.heap.size < g ∧ l.length ≤ 1000 ∧ e = .returned (.tuple #[.slice (some ⟨g, 0, none⟩) l.length l.length, .int .i64 0]) ∧ w'.heap[g]? = some (.cells (ivN l).toArray 3 (0, 0)))

set_option maxHeartbeats 4000000 in
set_option maxRecDepth 100000 in
theorem unpack_any (a : Option Addr) (len cap : Nat) (zs : List Nat) (w : World) (h : Bs w a len zs) (hl : len ≤ 1000) (hlc : len ≤ cap) (hcm : cap ≤ maxLen) :
    Calls Try.prog 14 #[.slice a len cap] w (UnpQ w zs) := by
  have HR := hidn (read_any a len cap zs w h hl hlc hcm)
  have HB := hidn h
  have hzl := h.1
  clear h
  go_enter Try.func14, Try.ntmps14
  go_wp2_with fail
  refine HR.out.mono ?_
  rintro e w1 ⟨b1, ⟨hbig, rfl⟩ | ⟨hbig, g, hg, rfl, hrow⟩⟩
  · have HN : Hid (unpP zs = none) := hidn (by unfold unpP; rw [if_pos hbig])
    have HB1 := hidn b1
    clear b1 hbig
    go_wp2_with fail
    go_ret2
    exact ⟨HB1.out, .inl ⟨HN.out, rfl⟩⟩
  · have HBIG : Hid (¬ readBig zs = true) := hidn (by rw [hbig]; simp)
    have hcl : (shortP zs false).1 ≤ 1000 := by
      have h1 : readBig zs = decide (min 100000 (shortP zs false).2.1.length < (shortP zs false).1) := rfl
      rw [hbig] at h1
      have h2 := of_decide_eq_false h1.symm
      have h3 := shortP_len zs false
      omega
    have hll := readL_len zs
    have HU : Hid (∀ f, f = (bodyS zs (shortP zs false).1).2.2 → unpP zs = if f = true then none else if canP (up (readL zs)) = true ∧ packB (readL zs) = zs then some (readL zs) else none) := hidn (fun f hf => by unfold unpP; rw [if_neg HBIG.out, hf])
    obtain ⟨f, hf⟩ : ∃ f, f = (bodyS zs (shortP zs false).1).2.2 := ⟨_, rfl⟩
    have hu := HU.out f hf
    rw [show (bodyS zs (shortP zs false).1).1 = readL zs from rfl] at hrow
    rw [← hf]
    rw [← hll] at hcl ⊢
    obtain ⟨l, hlz⟩ : ∃ l, l = readL zs := ⟨_, rfl⟩
    rw [← hlz] at hrow hcl hu ⊢
    obtain ⟨n, hn⟩ : ∃ n, n = l.length := ⟨_, rfl⟩
    rw [← hn] at hcl ⊢
    have HN := hidn hn
    have HROW := hidn hrow
    have HB1 := hidn b1
    have HG := hidn hg
    cases f with
    | true =>
      have HUN : Hid (unpP zs = none) := hidn (by rw [hu]; rfl)
      clear hu hf hlz hll hn hrow b1 hg hbig
      go_wp2_with fail
      go_ret2
      exact ⟨HB1.out, .inl ⟨HUN.out, rfl⟩⟩
    | false =>
      have hI := ils_row hrow (by unfold maxLen; omega)
      rw [← hn] at hI
      cases hc : canP (up l) with
      | false =>
        have HUN : Hid (unpP zs = none) := hidn (by rw [hu, hc]; rfl)
        have HCC : Hid (¬ canP (up l) = true) := hidn (by rw [hc]; simp)
        have HP := hidn (pack_no (some ⟨g, 0, none⟩) n n (up l) w1 hI hc)
        clear hu hf hlz hll hn hrow b1 hg hbig hI hc
        go_wp2_with fail
        refine HP.out.mono ?_
        rintro e w2 ⟨b2, ⟨h1, _⟩ | ⟨_, rfl⟩⟩
        · exact absurd h1 HCC.out
        · go_wp2_with fail
          go_ret2
          exact ⟨HB1.out.trans (b2.mono HB1.out.size), .inl ⟨HUN.out, rfl⟩⟩
      | true =>
        have HP := hidn (pack_yes (some ⟨g, 0, none⟩) n n l w1 hI (canP_riseN hc) hc (Nat.le_refl _) hcl)
        have hu2 : unpP zs = if packB l = zs then some l else none := by rw [hu, hc]; simp
        have HU2 := hidn hu2
        clear hu hf hlz hll hn hrow b1 hg hbig hI hc hu2
        go_wp2_with fail
        refine HP.out.mono ?_
        rintro e w2 ⟨b2, v, rfl, own2⟩
        obtain ⟨va, vc, rfl, hbs⟩ := bs_of_own own2 (packB_lt l)
        have HB2 := hidn (HB1.out.trans (b2.mono HB1.out.size))
        have HE := hidn (equal_any va a (packB l).length vc len cap (packB l) zs w2 hbs (HB.out.below HB2.out))
        have HROW2 := hidn ((b2.block g (Array.getElem?_eq_some_iff.1 HROW.out).1).trans HROW.out)
        obtain ⟨pl, hpl⟩ : ∃ pl, pl = (packB l).length := ⟨_, rfl⟩
        rw [← hpl] at HE ⊢
        clear own2 b2 hbs hpl
        by_cases heq : packB l = zs
        · have HEQ := hidn heq
          have hd : decide (packB l = zs) = true := decide_eq_true heq
          rw [hd] at HE
          clear heq hd
          go_wp2_with fail
          refine HE.out.mono ?_
          rintro e w3 ⟨rfl, rfl⟩
          go_wp2_with fail
          go_ret2
          refine ⟨HB2.out, .inr ⟨l, g, by rw [HU2.out, if_pos HEQ.out], HG.out, by rw [← HN.out]; exact hcl, by rw [← HN.out]; rfl, HROW2.out⟩⟩
        · have HEQ := hidn heq
          have hd : decide (packB l = zs) = false := decide_eq_false heq
          rw [hd] at HE
          clear heq hd
          go_wp2_with fail
          refine HE.out.mono ?_
          rintro e w3 ⟨rfl, rfl⟩
          go_wp2_with fail
          go_ret2
          refine ⟨HB2.out, .inl ⟨by rw [HU2.out, if_neg HEQ.out], rfl⟩⟩
end Go.Proofs.Ythmknpdhgfmogaa
