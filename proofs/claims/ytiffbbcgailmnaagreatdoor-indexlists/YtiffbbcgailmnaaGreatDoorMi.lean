/- chunk.takeChunk. -/
import Derived.Test.YtiffbbcgailmnaaGreatDoorMg
import Derived.Test.YtiffbbcgailmnaaGreatDoorLabDec
import Derived.Test.YtiffbbcgailmnaaGreatDoorCodInj
import Derived.Test.YtiffbbcgailmnaaGreatDoorGetWalk
import Derived.Test.YtiffbbcgailmnaaGreatDoorClone
import Derived.BigRegion
namespace Go.Proofs.YtiffbbcgailmnaaGreatDoor
open Go.RowKit Go.Joins
open Cd (Sam Sm canS encS samD SamOK IsPack BitsTab DbTab SamsOK vsm)
set_option linter.unusedVariables false
/-- The bytes begin with a chunk of n bytes, of these labels and samples. -/
def TkOK (zs : List Nat) (ls : List Lab) (sm : List Sam) (n : Nat) : Prop :=
  4 ≤ zs.length ∧ getB 0 (zs.take 4) ≤ zs.length - 4 ∧ n = 4 + getB 0 (zs.take 4) ∧
    ∃ r, decP ((zs.drop 4).take (getB 0 (zs.take 4))) = some (ls, r) ∧ canOK ls = true ∧ IsPack r (encS sm) ∧ canS sm = true ∧ SamsOK sm ∧ 0 < sm.length ∧ sm.length ≤ 20
theorem TkOK.same {zs : List Nat} {ls ls' : List Lab} {sm sm' : List Sam} {n n' : Nat} (h : TkOK zs ls sm n) (h' : TkOK zs ls' sm' n') : ls = ls' ∧ sm = sm' ∧ n = n' := by
  obtain ⟨_, _, rfl, r, h1, _, h2, h3, h4, _⟩ := h
  obtain ⟨_, _, rfl, r', h1', _, h2', h3', h4', _⟩ := h'
  rw [h1] at h1'
  simp only [Option.some.injEq, Prod.mk.injEq] at h1'
  obtain ⟨rfl, rfl⟩ := h1'
  exact ⟨rfl, Cd.pack_inj h4' h4 h3' h3 h2' h2, rfl⟩
theorem TkOK.chunk {ls : List Lab} {sm : List Sam} {p : List Nat} (hc : canOK ls = true) (hp : IsPack p (encS sm)) (hs : canS sm = true) (ho : SamsOK sm) (h0 : 0 < sm.length) (h20 : sm.length ≤ 20) (r : List Nat) : TkOK (chunkB ls p ++ r) ls sm (chunkB ls p).length := by
  have h1 := encTo_len ls hc ls.length (Nat.le_refl _)
  have h2 := ((canOK_iff ls).1 hc).2.1
  have h3 : (encN ls).length ≤ 1 + 66 * ls.length := h1
  have h4 := pack_len hp (by omega)
  have e4 : (chunkB ls p ++ r).take 4 = putB ((encN ls).length + p.length) 4 := by
    unfold chunkB
    rw [List.append_assoc, List.take_append_of_le_length (by rw [putB_length]; exact Nat.le_refl _), List.take_of_length_le (by rw [putB_length]; exact Nat.le_refl _)]
  have eg : getB 0 ((chunkB ls p ++ r).take 4) = (encN ls).length + p.length := by
    rw [e4, getB_putB, Nat.mod_eq_of_lt (by show _ < 4294967296; omega)]
  have el : (chunkB ls p).length = 4 + ((encN ls).length + p.length) := by unfold chunkB; rw [List.length_append, List.length_append, putB_length]
  refine ⟨by rw [List.length_append, el]; omega, by rw [eg, List.length_append, el]; omega, by rw [eg, el], p, ?_, hc, hp, hs, ho, h0, h20⟩
  rw [eg]
  have ed : (chunkB ls p ++ r).drop 4 = (encN ls ++ p) ++ r := by
    unfold chunkB
    rw [List.append_assoc, List.drop_append_of_le_length (by rw [putB_length]; exact Nat.le_refl _), List.drop_of_length_le (by rw [putB_length]; exact Nat.le_refl _), List.nil_append]
  rw [ed, List.take_append_of_le_length (by rw [List.length_append]; exact Nat.le_refl _), List.take_of_length_le (by rw [List.length_append]; exact Nat.le_refl _)]
  exact decP_enc ls p
def TkPost (w : World) (zs : List Nat) (e : Ending) (w' : World) : Prop :=
  Below w.heap.size w w' ∧ ((∃ (s : Ser) (n : Nat), e = .returned (.tuple #[.agg #[.slice s.la s.ll s.lc, .slice s.sa s.sl s.sc], .int .i64 (n : Int), .bool true]) ∧ TkOK zs s.ls s.sm n ∧ s.ok w' ∧ ∀ k, s.sa = some k → w.heap.size ≤ k.block) ∨
    (e = .returned (.tuple #[.agg #[.slice none 0 0, .slice none 0 0], .int .i64 0, .bool false]) ∧ ∀ ls sm n, ¬ TkOK zs ls sm n))
theorem bs_part {w : World} {b off len : Nat} {zs : List Nat} (h : Bs w (some ⟨b, off, none⟩) len zs) (i m : Nat) (him : i + m ≤ len) : Bs w (some ⟨b, off + i, none⟩) m ((zs.drop i).take m) := by
  obtain ⟨h1, h2, h3, h4, h5⟩ := h
  refine ⟨by rw [List.length_take, List.length_drop, h1]; omega, by omega, fun x hx => h3 x (List.mem_of_mem_drop (List.mem_of_mem_take hx)), (fun e => by cases e), fun x hx j hj => ?_⟩
  cases hx
  have := h5 _ rfl (i + j) (by omega)
  rw [ladd_none] at this ⊢
  rw [Nat.add_assoc, this, List.getD_eq_getElem?_getD, List.getD_eq_getElem?_getD, List.getElem?_take, if_pos hj, List.getElem?_drop]
theorem sm_of_own {w : World} {base : Nat} {v : Value} {l : List Sam} (h : w.ownsRow base 39 2 v l.length (vsm l)) (ho : SamsOK l) : ∃ a c, v = .slice a l.length c ∧ Sm w a l.length l ∧ l.length ≤ c ∧ c ≤ maxLen ∧ ∀ k, a = some k → base ≤ k.block := by
  have h' := h
  rcases h.2 with ⟨rfl, h0⟩ | ⟨g, cap, cur, rfl, hg, hh, hnc, hcm, hcs, htk⟩
  · obtain rfl : l = [] := List.length_eq_zero_iff.1 h0
    exact ⟨none, 0, rfl, Cd.Sm.nil w, Nat.le_refl _, by decide, fun k hk => by cases hk⟩
  · refine ⟨_, cap, rfl, ⟨rfl, by omega, ho, (fun h => by cases h), fun x hx j hj => ?_⟩, hnc, hcm, fun k hk => by cases hk; exact hg⟩
    cases hx
    obtain ⟨g1, g2⟩ := Cd.vsm_get l j hj
    exact ⟨h'.cells (g := g) rfl _ _ g1, h'.cells (g := g) rfl _ _ g2⟩
theorem pieceN_len {b x r : List Nat} (h : pieceN b = some (x, r)) : r.length ≤ b.length := by
  cases b with
  | nil => cases h
  | cons n t =>
    have h : (if t.length < n then none else some (t.take n, t.drop n)) = some (x, r) := h
    by_cases hl : t.length < n
    · rw [if_pos hl] at h; cases h
    · rw [if_neg hl] at h
      simp only [Option.some.injEq, Prod.mk.injEq] at h
      rw [← h.2]
      simp
      omega
theorem decN_len : ∀ (k : Nat) (b : List Nat) (ls : List Lab) (r : List Nat), decN k b = some (ls, r) → r.length ≤ b.length := by
  intro k
  induction k with
  | zero => intro b ls r h; simp only [decN, Option.some.injEq, Prod.mk.injEq] at h; rw [h.2]; exact Nat.le_refl _
  | succ k ih =>
    intro b ls r h
    cases h1 : pieceN b with
    | none => simp [decN, h1] at h
    | some q =>
      obtain ⟨n, b1⟩ := q
      cases h2 : pieceN b1 with
      | none => simp [decN, h1, h2] at h
      | some q2 =>
        obtain ⟨v, b2⟩ := q2
        simp only [decN, h1, h2] at h
        obtain ⟨⟨ls', r'⟩, h3, h4⟩ := Option.map_eq_some_iff.1 h
        simp only [addL, Prod.mk.injEq] at h4
        have := ih b2 ls' r' h3
        have := pieceN_len h1
        have := pieceN_len h2
        rw [← h4.2]
        omega
theorem decP_len {b : List Nat} {ls : List Lab} {r : List Nat} (h : decP b = some (ls, r)) : r.length ≤ b.length := by
  cases b with
  | nil => cases h
  | cons n t =>
    have := decN_len n t ls r (by simpa [decP] using h)
    simp
    omega
theorem cell_slice {W : World} {g : Nat} {t : TypeId} {p : Addr} {v : Value} (hg : W.heap[g]? = some (.cells #[.slice none 0 0, .slice none 0 0] t (0, 0))) (h : W.cell? p = some v) (hp : p.block = g) : v = .slice none 0 0 := by
  obtain ⟨b, o, sp⟩ := p
  have hs : sp = none := by simpa using World.cell?_spot h
  subst hs
  simp only at hp
  subst hp
  rw [cell_of_row _ _ _ _ _ _ hg] at h
  match o, h with
  | 0, h => simpa using h.symm
  | 1, h => simpa using h.symm
  | o + 2, h => simp at h
theorem cell_kept2 {W : World} {g : Nat} {t : TypeId} {p : Addr} {v x y : Value} (hg : W.heap[g]? = some (.cells #[.slice none 0 0, .slice none 0 0] t (0, 0))) (h : W.cell? p = some v) (hv : v ≠ .slice none 0 0) : ((W.setCell ⟨g, 0, none⟩ x).setCell ⟨g, 1, none⟩ y).cell? p = some v := by
  have hne : p.block ≠ g := fun e => hv (cell_slice hg h e)
  rw [← h]
  refine World.cell?_of_block ?_
  rw [Below.heap_setCell _ ⟨g, 1, none⟩ _ _ hne, Below.heap_setCell _ ⟨g, 0, none⟩ _ _ hne]
theorem ls_other {W : World} {g : Nat} {x y : Value} {a : Option Addr} {n : Nat} {ls : List Lab} (h : Ls W a n ls) (hg : W.heap[g]? = some (.cells #[.slice none 0 0, .slice none 0 0] 42 (0, 0))) : Ls ((W.setCell ⟨g, 0, none⟩ x).setCell ⟨g, 1, none⟩ y) a n ls := by
  obtain ⟨h1, h2, h3, h4, h5⟩ := h
  exact ⟨h1, h2, h3, h4, fun z hz j hj => ⟨cell_kept2 hg (h5 z hz j hj).1 (by simp), cell_kept2 hg (h5 z hz j hj).2 (by simp)⟩⟩
theorem sm_other {W : World} {g : Nat} {x y : Value} {a : Option Addr} {n : Nat} {l : List Sam} (h : Sm W a n l) (hg : W.heap[g]? = some (.cells #[.slice none 0 0, .slice none 0 0] 42 (0, 0))) : Sm ((W.setCell ⟨g, 0, none⟩ x).setCell ⟨g, 1, none⟩ y) a n l := by
  obtain ⟨h1, h2, h3, h4, h5⟩ := h
  exact ⟨h1, h2, h3, h4, fun z hz j hj => ⟨cell_kept2 hg (h5 z hz j hj).1 (by simp), cell_kept2 hg (h5 z hz j hj).2 (by simp)⟩⟩
theorem set2_row {W : World} {g : Nat} {u v : Value} {t : TypeId} {fz : Nat × Nat} (h : W.heap[g]? = some (.cells #[u, v] t fz)) (x y : Value) : ((W.setCell ⟨g, 0, none⟩ x).setCell ⟨g, 1, none⟩ y).heap[g]? = some (.cells #[x, y] t fz) := block_setCell (block_setCell h x) y
theorem ser_results {w : World} {g : Nat} {x y : Value} (fn : Func) (hfn : fn.results = #[.cell 2 42, .tmp 3, .tmp 4]) (tmps : Array Value) (v v2 : Value) (hp : tmps[2]?.getD undef = .pointer (some ⟨g, 0, none⟩)) (hv : tmps[3]?.getD undef = v) (hv2 : tmps[4]?.getD undef = v2)
    (c0 : w.cell? ⟨g, 0, none⟩ = some x) (c1 : w.cell? ⟨g, 1, none⟩ = some y) : (results fn tmps).run Tryz.prog w = .ok (.tuple #[.agg #[x, y], v, v2]) w := by
  simp [results, hfn, hp, hv, hv2, go_sem, c0, c1]
set_option maxHeartbeats 2000000 in
set_option maxRecDepth 100000 in
theorem takeChunk_any (b off len cap : Nat) (zs : List Nat) (w : World) (h : Bs w (some ⟨b, off, none⟩) len zs) (hl : len ≤ 1000000000) (hcap : len ≤ cap) (hcm : cap ≤ maxLen) (hT : BitsTab w) :
    Calls Tryz.prog 41 #[.slice (some ⟨b, off, none⟩) len cap] w (TkPost w zs) := by
  unfold maxLen at hcm
  have hzl := hidn h.1
  by_cases h4 : len < 4
  · have g4 : (len : Int) < 4 := by omega
    have HNO : Hid (∀ ls sm n, ¬ TkOK zs ls sm n) := hidn (fun ls sm n hh => by have := hh.1; rw [hzl.out] at this; omega)
    go_enter Tryz.func41, Tryz.ntmps41
    go_wp2_with fail
    exact bodyPost_ret (v := .tuple #[.agg #[.slice none 0 0, .slice none 0 0], .int .i64 0, .bool false]) (ser_results _ rfl _ _ _ (by kernel_rfl) (by kernel_rfl) (by kernel_rfl) (cell_of_row _ _ _ _ _ _ (heap_alloc_new w _)) (cell_of_row _ _ _ _ _ _ (heap_alloc_new w _))) rfl ⟨(Below.refl _ w).alloc (Nat.le_refl _) _, .inr ⟨rfl, HNO.out⟩⟩
  · have g4 : ¬ (len : Int) < 4 := by omega
    have h4c : (4 : Int) ≤ (cap : Int) := by omega
    have h4l : (4 : Int) ≤ (len : Int) := by omega
    obtain ⟨w0, hw0⟩ : ∃ w0, w0 = w.alloc (.cells #[.slice none 0 0, .slice none 0 0] 42) := ⟨_, rfl⟩
    have b0 : Below w.heap.size w w0 := by rw [hw0]; exact (Below.refl _ w).alloc (Nat.le_refl _) _
    have q0 : w0.heap[w.heap.size]? = some (.cells #[.slice none 0 0, .slice none 0 0] 42 (0, 0)) := by rw [hw0]; exact heap_alloc_new w _
    have c00 : w0.cell? ⟨w.heap.size, 0, none⟩ = some (.slice none 0 0) := cell_of_row _ _ _ _ _ _ q0
    have c01 : w0.cell? ⟨w.heap.size, 1, none⟩ = some (.slice none 0 0) := cell_of_row _ _ _ _ _ _ q0
    have f00 : w0.frozen? ⟨w.heap.size, 0, none⟩ = false := by simp [World.frozen?, q0]
    have f01 : w0.frozen? ⟨w.heap.size, 1, none⟩ = false := by simp [World.frozen?, q0]
    have HW0 := hidn hw0
    have h0 := h.below b0
    have hP4 := bs_part h0 0 4 (by omega)
    rw [List.drop_zero, Nat.add_zero] at hP4
    have hz4 : ∀ x ∈ zs.take 4, x < 256 := hP4.2.2.1
    have hl4 : 4 = (zs.take 4).length := hP4.1.symm
    have HG := hidn (get_some b off 4 cap (zs.take 4) w0 hz4 hl4 (by decide) (by decide) (fun j hj => by have := hP4.2.2.2.2 _ rfl j hj; rw [ladd_none] at this; exact this))
    have hLlt : getB 0 (zs.take 4) < 4294967296 := by have := getB_lt (zs.take 4) hz4; rw [← hl4] at this; exact this
    obtain ⟨L, hL⟩ : ∃ L, L = getB 0 (zs.take 4) := ⟨_, rfl⟩
    rw [← hL] at HG hLlt
    have HL := hidn hL
    have hw4 : IntKind.u64.wrap ((len : Int) - 4) = (len : Int) - 4 := by rw [IntKind.wrap_u64]; omega
    clear hw0 hL hP4 hz4 hl4
    go_enter Tryz.func41, Tryz.ntmps41
    go_wp2_with fail
    rw [← HW0.out]
    refine HG.out.mono ?_
    rintro e w1 ⟨rfl, rfl⟩
    by_cases hbig : (len : Int) - 4 < (L : Int)
    · have HNO : Hid (∀ ls sm n, ¬ TkOK zs ls sm n) := hidn (fun ls sm n hh => by have := hh.2.1; rw [← HL.out, hzl.out] at this; omega)
      go_wp2_with fail
      have qz := set2_row q0 (.slice none 0 0) (.slice none 0 0)
      exact bodyPost_ret (v := .tuple #[.agg #[.slice none 0 0, .slice none 0 0], .int .i64 0, .bool false]) (ser_results _ rfl _ _ _ (by kernel_rfl) (by kernel_rfl) (by kernel_rfl) (cell_of_row _ _ _ _ _ _ qz) (cell_of_row _ _ _ _ _ _ qz)) rfl ⟨(b0.setCell (p := ⟨w.heap.size, 0, none⟩) (Nat.le_refl _) _).setCell (p := ⟨w.heap.size, 1, none⟩) (Nat.le_refl _) _, .inr ⟨rfl, HNO.out⟩⟩
    · have hle : L + 4 ≤ len := by omega
      obtain ⟨N, hN⟩ : ∃ N : Nat, N = 4 + L := ⟨_, rfl⟩
      have hwL : IntKind.i64.wrap (L : Int) = (L : Int) := by rw [IntKind.wrap_i64]; omega
      have hsum : 4 + (L : Int) = (N : Int) := by omega
      have n1 : (4 : Int) ≤ (N : Int) := by omega
      have n2 : (N : Int) ≤ (cap : Int) := by omega
      have n3 : 4 ≤ N := by omega
      have n4 : N ≤ cap := by omega
      have n5 : N - 4 = L := by omega
      have HN := hidn hN
      have HB4 : Hid (∀ A, A = some ⟨b, off + 4, none⟩ ∨ L = 0 → Bs w1 A L ((zs.drop 4).take L) ∨ A = none) := hidn (fun A hA => by
        rcases hA with rfl | h00
        · exact .inl (bs_part h0 4 L (by omega))
        · cases A with
          | none => exact .inr rfl
          | some x =>
            subst h00
            refine .inl ⟨by simp, Nat.zero_le _, (fun x hx => by simp at hx), (fun e => by cases e), fun x _ j hj => by omega⟩)
      have hT0 := hT.below b0
      clear hN
      by_cases hcap4 : cap = 4
      · subst hcap4
        obtain rfl : L = 0 := by omega
        obtain rfl : len = 4 := by omega
        obtain rfl : N = 4 := by omega
        have HNO : Hid (∀ ls sm n, ¬ TkOK zs ls sm n) := hidn (fun ls sm n hh => by
          obtain ⟨_, _, _, r, h1, _⟩ := hh
          rw [← HL.out, List.take_zero] at h1
          cases h1)
        go_wp2_with fail
        refine (dec_empty _ _ _).mono ?_
        rintro e w2 ⟨rfl, b2⟩
        have q2 := (b2.block _ (Array.getElem?_eq_some_iff.1 q0).1).trans q0
        have c20 : w2.cell? ⟨w.heap.size, 0, none⟩ = some (.slice none 0 0) := cell_of_row _ _ _ _ _ _ q2
        have c21 : w2.cell? ⟨w.heap.size, 1, none⟩ = some (.slice none 0 0) := cell_of_row _ _ _ _ _ _ q2
        have f20 : w2.frozen? ⟨w.heap.size, 0, none⟩ = false := by simp [World.frozen?, q2]
        have f21 : w2.frozen? ⟨w.heap.size, 1, none⟩ = false := by simp [World.frozen?, q2]
        have B2 := b0.trans (b2.mono b0.size)
        go_wp2_with fail
        have qz := set2_row q2 (.slice none 0 0) (.slice none 0 0)
        exact bodyPost_ret (v := .tuple #[.agg #[.slice none 0 0, .slice none 0 0], .int .i64 0, .bool false]) (ser_results _ rfl _ _ _ (by kernel_rfl) (by kernel_rfl) (by kernel_rfl) (cell_of_row _ _ _ _ _ _ qz) (cell_of_row _ _ _ _ _ _ qz)) rfl ⟨(B2.setCell (p := ⟨w.heap.size, 0, none⟩) (Nat.le_refl _) _).setCell (p := ⟨w.heap.size, 1, none⟩) (Nat.le_refl _) _, .inr ⟨rfl, HNO.out⟩⟩
      · have hc5 : ¬ (cap - 4 = 0) := by omega
        have HD := hidn (dec_any2 (some ⟨b, off + 4, none⟩) L (cap - 4) ((zs.drop 4).take L) w1 (bs_part h0 4 L (by omega)) (by omega) (by omega) (by unfold maxLen; omega))
        clear HB4
        go_wp2_with fail
        refine HD.out.mono ?_
        rintro e w2 ⟨b2, hcase⟩
        have q2 := (b2.block _ (Array.getElem?_eq_some_iff.1 q0).1).trans q0
        have c20 : w2.cell? ⟨w.heap.size, 0, none⟩ = some (.slice none 0 0) := cell_of_row _ _ _ _ _ _ q2
        have c21 : w2.cell? ⟨w.heap.size, 1, none⟩ = some (.slice none 0 0) := cell_of_row _ _ _ _ _ _ q2
        have f20 : w2.frozen? ⟨w.heap.size, 0, none⟩ = false := by simp [World.frozen?, q2]
        have f21 : w2.frozen? ⟨w.heap.size, 1, none⟩ = false := by simp [World.frozen?, q2]
        have B2 := b0.trans (b2.mono b0.size)
        have HHB := hidn hbig
        clear c00 c01 f00 f01 hbig
        rcases hcase with ⟨hd, rfl⟩ | ⟨ls, r, hd, hcn, rfl⟩ | ⟨ls, r, a', c', a2, c2, hd, hcn, rfl, hLs, hBr, hrc, hcm2, hlc⟩
        · have HNO : Hid (∀ ls sm n, ¬ TkOK zs ls sm n) := hidn (fun ls sm n hh => by
            obtain ⟨_, _, _, r, h1, _⟩ := hh
            rw [← HL.out, hd] at h1
            cases h1)
          go_wp2_with fail
          have qz := set2_row q2 (.slice none 0 0) (.slice none 0 0)
          exact bodyPost_ret (v := .tuple #[.agg #[.slice none 0 0, .slice none 0 0], .int .i64 0, .bool false]) (ser_results _ rfl _ _ _ (by kernel_rfl) (by kernel_rfl) (by kernel_rfl) (cell_of_row _ _ _ _ _ _ qz) (cell_of_row _ _ _ _ _ _ qz)) rfl ⟨(B2.setCell (p := ⟨w.heap.size, 0, none⟩) (Nat.le_refl _) _).setCell (p := ⟨w.heap.size, 1, none⟩) (Nat.le_refl _) _, .inr ⟨rfl, HNO.out⟩⟩
        · have HNO : Hid (∀ ls sm n, ¬ TkOK zs ls sm n) := hidn (fun ls' sm n hh => by
            obtain ⟨_, _, _, r', h1, h2, _⟩ := hh
            rw [← HL.out, hd] at h1
            simp only [Option.some.injEq, Prod.mk.injEq] at h1
            rw [← h1.1, hcn] at h2
            cases h2)
          go_wp2_with fail
          have qz := set2_row q2 (.slice none 0 0) (.slice none 0 0)
          exact bodyPost_ret (v := .tuple #[.agg #[.slice none 0 0, .slice none 0 0], .int .i64 0, .bool false]) (ser_results _ rfl _ _ _ (by kernel_rfl) (by kernel_rfl) (by kernel_rfl) (cell_of_row _ _ _ _ _ _ qz) (cell_of_row _ _ _ _ _ _ qz)) rfl ⟨(B2.setCell (p := ⟨w.heap.size, 0, none⟩) (Nat.le_refl _) _).setCell (p := ⟨w.heap.size, 1, none⟩) (Nat.le_refl _) _, .inr ⟨rfl, HNO.out⟩⟩
        · have hl8 := ((canOK_iff ls).1 hcn).2.1
          have hrl : r.length ≤ 1000000000 := by
            have h1 := decP_len hd
            rw [List.length_take] at h1
            omega
          obtain ⟨rl, hrle⟩ : ∃ rl, rl = r.length := ⟨_, rfl⟩
          obtain ⟨ln, hlne⟩ : ∃ ln, ln = ls.length := ⟨_, rfl⟩
          have HS := hidn (Cd.sdec_any a2 r.length c2 r w2 hBr hrl hrc hcm2 (hT0.below b2))
          have HLS := hidn hLs
          have HLC := hidn hlc
          have HD2 := hidn hd
          have HCN := hidn hcn
          rw [← hrle] at HS
          rw [← hrle, ← hlne]
          have HLN := hidn hlne
          clear hlne hrle hd hcn hLs hBr hrc hlc hrl hl8
          go_wp2_with fail
          refine HS.out.mono ?_
          rintro e w3 ⟨hcase, b3⟩
          have q3 := (b3.block _ (Array.getElem?_eq_some_iff.1 q2).1).trans q2
          have c30 : w3.cell? ⟨w.heap.size, 0, none⟩ = some (.slice none 0 0) := cell_of_row _ _ _ _ _ _ q3
          have c31 : w3.cell? ⟨w.heap.size, 1, none⟩ = some (.slice none 0 0) := cell_of_row _ _ _ _ _ _ q3
          have f30 : w3.frozen? ⟨w.heap.size, 0, none⟩ = false := by simp [World.frozen?, q3]
          have f31 : w3.frozen? ⟨w.heap.size, 1, none⟩ = false := by simp [World.frozen?, q3]
          have B3 := B2.trans (b3.mono B2.size)
          clear c20 c21 f20 f21
          rcases hcase with ⟨sm, v, rfl, hcs, hok, hpk, hown⟩ | ⟨rfl, hno⟩
          · obtain ⟨sa, sc, rfl, hSm, hsc, hscm, hsab⟩ := sm_of_own hown hok
            have HSAB := hidn hsab
            clear hsab
            obtain ⟨sl, hsl⟩ : ∃ sl, sl = sm.length := ⟨_, rfl⟩
            have HSM := hidn hSm
            have HSC := hidn hsc
            have HSL := hidn hsl
            rw [← hsl]
            have hslm : sl ≤ 65535 := by rw [hsl]; exact ((Cd.canS_iff sm).1 hcs).1
            clear hsl hSm hsc hown
            by_cases s0 : sl = 0
            · have HNO : Hid (∀ ls sm n, ¬ TkOK zs ls sm n) := hidn (fun ls' sm' n hh => by
                obtain ⟨_, _, _, r', h1, h2, h3, h4, h5, h6, _⟩ := hh
                rw [← HL.out, HD2.out] at h1
                simp only [Option.some.injEq, Prod.mk.injEq] at h1
                rw [← h1.2] at h3
                have := Cd.pack_inj hok h5 hcs h4 hpk h3
                rw [this, ← HSL.out, s0] at h6
                omega)
              subst s0
              go_wp2_with fail
              have qz := set2_row q3 (.slice none 0 0) (.slice none 0 0)
              exact bodyPost_ret (v := .tuple #[.agg #[.slice none 0 0, .slice none 0 0], .int .i64 0, .bool false]) (ser_results _ rfl _ _ _ (by kernel_rfl) (by kernel_rfl) (by kernel_rfl) (cell_of_row _ _ _ _ _ _ qz) (cell_of_row _ _ _ _ _ _ qz)) rfl ⟨(B3.setCell (p := ⟨w.heap.size, 0, none⟩) (Nat.le_refl _) _).setCell (p := ⟨w.heap.size, 1, none⟩) (Nat.le_refl _) _, .inr ⟨rfl, HNO.out⟩⟩
            · have s1 : ((sl : Int) == 0) = false := beq_eq_false_iff_ne.2 (by omega)
              by_cases s20 : 20 < sl
              · have s21 : (20 : Int) < (sl : Int) := by omega
                have HNO : Hid (∀ ls sm n, ¬ TkOK zs ls sm n) := hidn (fun ls' sm' n hh => by
                  obtain ⟨_, _, _, r', h1, h2, h3, h4, h5, h6, h7⟩ := hh
                  rw [← HL.out, HD2.out] at h1
                  simp only [Option.some.injEq, Prod.mk.injEq] at h1
                  rw [← h1.2] at h3
                  have := Cd.pack_inj hok h5 hcs h4 hpk h3
                  rw [this, ← HSL.out] at h7
                  omega)
                clear s0
                go_wp2_with fail
                have qz := set2_row q3 (.slice none 0 0) (.slice none 0 0)
                exact bodyPost_ret (v := .tuple #[.agg #[.slice none 0 0, .slice none 0 0], .int .i64 0, .bool false]) (ser_results _ rfl _ _ _ (by kernel_rfl) (by kernel_rfl) (by kernel_rfl) (cell_of_row _ _ _ _ _ _ qz) (cell_of_row _ _ _ _ _ _ qz)) rfl ⟨(B3.setCell (p := ⟨w.heap.size, 0, none⟩) (Nat.le_refl _) _).setCell (p := ⟨w.heap.size, 1, none⟩) (Nat.le_refl _) _, .inr ⟨rfl, HNO.out⟩⟩
              · have s21 : ¬ (20 : Int) < (sl : Int) := by omega
                have HOK : Hid (TkOK zs ls sm N) := hidn ⟨by rw [hzl.out]; omega, by rw [← HL.out, hzl.out]; omega, by rw [← HL.out]; exact HN.out, r, by rw [← HL.out]; exact HD2.out, HCN.out, hpk, hcs, hok, by rw [← HSL.out]; omega, by rw [← HSL.out]; omega⟩
                clear s0
                go_wp2_with fail
                have qz := set2_row q3 (.slice a' ln c') (.slice sa sl sc)
                have bz : Below w3.heap.size w3 w3 := Below.refl _ _
                refine bodyPost_ret (v := .tuple #[.agg #[.slice a' ln c', .slice sa sl sc], .int .i64 (N : Int), .bool true]) (ser_results _ rfl _ _ _ (by kernel_rfl) (by kernel_rfl) (by kernel_rfl) (cell_of_row _ _ _ _ _ _ qz) (cell_of_row _ _ _ _ _ _ qz)) rfl ⟨(B3.setCell (p := ⟨w.heap.size, 0, none⟩) (Nat.le_refl _) _).setCell (p := ⟨w.heap.size, 1, none⟩) (Nat.le_refl _) _, .inl ⟨⟨a', ln, c', ls, sa, sl, sc, sm⟩, N, rfl, HOK.out, ?_, fun k hk => Nat.le_trans B2.size (HSAB.out k hk)⟩⟩
                have h1 : Ls w3 a' ls.length ls := HLS.out.below b3
                have h8 := ((canOK_iff ls).1 HCN.out).2.1
                refine ⟨?_, by show ln ≤ _; rw [HLN.out]; omega, ?_, by show sl ≤ sc; rw [HSL.out]; exact HSC.out, hscm⟩
                · rw [← HLN.out] at h1
                  exact ls_other h1 q3
                · have h2 := HSM.out
                  rw [← HSL.out] at h2
                  exact sm_other h2 q3
          · have HNO : Hid (∀ ls sm n, ¬ TkOK zs ls sm n) := hidn (fun ls' sm' n hh => by
              obtain ⟨_, _, _, r', h1, h2, h3, h4, h5, _⟩ := hh
              rw [← HL.out, HD2.out] at h1
              simp only [Option.some.injEq, Prod.mk.injEq] at h1
              rw [← h1.2] at h3
              exact hno sm' h5 h4 h3)
            go_wp2_with fail
            have qz := set2_row q3 (.slice none 0 0) (.slice none 0 0)
            exact bodyPost_ret (v := .tuple #[.agg #[.slice none 0 0, .slice none 0 0], .int .i64 0, .bool false]) (ser_results _ rfl _ _ _ (by kernel_rfl) (by kernel_rfl) (by kernel_rfl) (cell_of_row _ _ _ _ _ _ qz) (cell_of_row _ _ _ _ _ _ qz)) rfl ⟨(B3.setCell (p := ⟨w.heap.size, 0, none⟩) (Nat.le_refl _) _).setCell (p := ⟨w.heap.size, 1, none⟩) (Nat.le_refl _) _, .inr ⟨rfl, HNO.out⟩⟩
end Go.Proofs.YtiffbbcgailmnaaGreatDoor

namespace Go.Proofs.YtiffbbcgailmnaaGreatDoor
open Go.RowKit Go.Joins
open Cd (Sam Sm canS encS samD SamOK IsPack BitsTab DbTab SamsOK vsm)
set_option linter.unusedVariables false
/-- A cursor that Open made. -/
def Cur (w : World) (g : Nat) (a : Option Addr) (len cap : Nat) (zs : List Nat) (at' er : Int) : Prop :=
  w.heap[g]? = some (.cells #[.bool true, .slice a len cap, .int .i64 at', .int .i64 er] 73 (0, 0)) ∧ Bs w a len zs ∧ len ≤ cap ∧ cap ≤ maxLen ∧ len ≤ 1000000000
def atZ (x : Int) : Int := if x < 0 then 0 else if 2147483647 < x then 2147483647 else x
def OpenP (w : World) (zs : List Nat) (x : Int) (e : Ending) (w' : World) : Prop :=
  ∃ g a cap, e = .returned (.pointer (some ⟨g, 0, none⟩)) ∧ Cur w' g a zs.length cap zs (atZ x) 0 ∧ w.heap.size ≤ g ∧ (∀ k, a = some k → w.heap.size ≤ k.block) ∧ Below w.heap.size w w'
theorem bs_ownC {w : World} {base n : Nat} {v : Value} {zs : List Nat} (h : w.ownsRow base 5 1 v n (vb zs)) (hz : ∀ x ∈ zs, x < 256) (hn : zs.length = n) :
    ∃ a cap, v = .slice a n cap ∧ Bs w a n zs ∧ n ≤ cap ∧ cap ≤ maxLen ∧ ∀ k, a = some k → base ≤ k.block := by
  have h' := h
  rcases h.2 with ⟨rfl, h0⟩ | ⟨g, cap, cur, rfl, hg, hh, hnc, hcm, hcs, htk⟩
  · subst h0
    obtain rfl : zs = [] := List.length_eq_zero_iff.1 hn
    exact ⟨none, 0, rfl, Bs.nil w, Nat.le_refl _, by decide, fun k hk => by cases hk⟩
  · refine ⟨_, cap, rfl, ⟨hn, by omega, hz, (fun h => by cases h), fun x hx j hj => ?_⟩, hnc, hcm, fun k hk => by cases hk; exact hg⟩
    cases hx
    refine h'.cells (g := g) rfl j _ ?_
    simp [vb, List.getD_eq_getElem?_getD, List.getElem?_eq_getElem (show j < zs.length by omega)]
set_option maxHeartbeats 2000000 in
set_option maxRecDepth 100000 in
theorem open_any (a : Option Addr) (len cap : Nat) (zs : List Nat) (x : Int) (w : World) (h : Bs w a len zs) (hl : len ≤ 1000000000) :
    Calls Tryz.prog 27 #[.slice a len cap, .int .i64 x] w (OpenP w zs x) := by
  have HC := hidn (clone_any a len cap zs w h (by omega))
  have hzl := h.1
  have hz := h.2.2.1
  obtain ⟨y, hy⟩ : ∃ y, y = atZ x := ⟨_, rfl⟩
  have HY := hidn hy
  obtain ⟨m, hm⟩ : ∃ m : Int, m = if x < 0 then 0 else x := ⟨_, rfl⟩
  have e1 : (if x < 0 then (0 : Int) else x) = m := hm.symm
  have e1' : max x 0 = m := by rw [hm]; split <;> omega
  have e2 : (if (2147483647 : Int) < m then (2147483647 : Int) else m) = y := by rw [hy, hm]; unfold atZ; split <;> rfl
  have e2' : min m 2147483647 = y := by rw [← e2]; split <;> omega
  have e1'' : (if x < (0 : Int) then (0 : Int) else x) = m := e1
  clear hy hm
  go_enter Tryz.func27, Tryz.ntmps27
  go_wp2_with fail
  refine HC.out.mono ?_
  rintro e w1 ⟨v, rfl, own, b1⟩
  obtain ⟨a1, c1, rfl, hB, hc1, hcm1, hblk⟩ := bs_ownC own hz hzl
  have HB := hidn hB
  have HBK := hidn hblk
  clear hB own hblk
  go_wp2_with fail
  have bA := (Below.refl _ w1).alloc (Nat.le_refl _) (.cells #[.bool true, .slice a1 len c1, .int .i64 y, .int .i64 0] 73)
  exact bodyPost_ret (v := .pointer (some ⟨w1.heap.size, 0, none⟩)) (by simp [results, Tryz.results27, go_sem]) rfl ⟨w1.heap.size, a1, c1, rfl, ⟨by rw [hzl, ← HY.out]; exact heap_alloc_new w1 _, by rw [hzl]; exact HB.out.below bA, by rw [hzl]; exact hc1, hcm1, by rw [hzl]; exact hl⟩, b1.size, HBK.out, b1.trans (bA.mono b1.size)⟩
set_option maxHeartbeats 2000000 in
theorem err_nil (w : World) : Calls Tryz.prog 29 #[.pointer none] w fun e w' => e = .returned (.int .i64 2) ∧ w' = w := by
  go_enter Tryz.func29, Tryz.ntmps29
  go_wp2_with fail
  exact bodyPost_ret (v := .int .i64 2) (by simp [results, Tryz.results29, go_sem]) rfl ⟨rfl, rfl⟩
set_option maxHeartbeats 2000000 in
theorem err_unmade (g : Nat) (w : World) (h : w.cell? ⟨g, 0, none⟩ = some (.bool false)) : Calls Tryz.prog 29 #[.pointer (some ⟨g, 0, none⟩)] w fun e w' => e = .returned (.int .i64 2) ∧ w' = w := by
  go_enter Tryz.func29, Tryz.ntmps29
  go_wp2_with fail
  exact bodyPost_ret (v := .int .i64 2) (by simp [results, Tryz.results29, go_sem]) rfl ⟨rfl, rfl⟩
set_option maxHeartbeats 2000000 in
theorem err_made (g : Nat) (er : Int) (w : World) (h : w.cell? ⟨g, 0, none⟩ = some (.bool true)) (h3 : w.cell? ⟨g, 3, none⟩ = some (.int .i64 er)) : Calls Tryz.prog 29 #[.pointer (some ⟨g, 0, none⟩)] w fun e w' => e = .returned (.int .i64 er) ∧ w' = w := by
  go_enter Tryz.func29, Tryz.ntmps29
  go_wp2_with fail
  exact bodyPost_ret (v := .int .i64 er) (by simp [results, Tryz.results29, go_sem]) rfl ⟨rfl, rfl⟩
def zEnt : Value := .agg #[.slice none 0 0, .int .i64 0, .int .i64 0, .int .i64 0, .int .i64 0]
theorem ent_results {w : World} {g : Nat} {x0 x1 x2 x3 x4 : Value} (fn : Func) (hfn : fn.results = #[.cell 2 48, .tmp 3, .tmp 4]) (tmps : Array Value) (v v2 : Value) (hp : tmps[2]?.getD undef = .pointer (some ⟨g, 0, none⟩)) (hv : tmps[3]?.getD undef = v) (hv2 : tmps[4]?.getD undef = v2)
    (c0 : w.cell? ⟨g, 0, none⟩ = some x0) (c1 : w.cell? ⟨g, 1, none⟩ = some x1) (c2 : w.cell? ⟨g, 2, none⟩ = some x2) (c3 : w.cell? ⟨g, 3, none⟩ = some x3) (c4 : w.cell? ⟨g, 4, none⟩ = some x4) : (results fn tmps).run Tryz.prog w = .ok (.tuple #[.agg #[x0, x1, x2, x3, x4], v, v2]) w := by
  simp [results, hfn, hp, hv, hv2, go_sem, c0, c1, c2, c3, c4]
set_option maxHeartbeats 2000000 in
set_option maxRecDepth 100000 in
theorem next_none (p : Option Addr) (w : World) (h : p = none ∨ ∃ g a c, p = some ⟨g, 0, none⟩ ∧ w.cell? ⟨g, 1, none⟩ = some (.slice a 0 c)) : Calls Tryz.prog 28 #[.pointer p] w fun e w' => e = .returned (.tuple #[zEnt, .slice none 0 0, .bool false]) ∧ Below w.heap.size w w' := by
  have qA : (w.alloc (.cells #[.slice none 0 0, .int .i64 0, .int .i64 0, .int .i64 0, .int .i64 0] 48)).heap[w.heap.size]? = some (.cells #[.slice none 0 0, .int .i64 0, .int .i64 0, .int .i64 0, .int .i64 0] 48 (0, 0)) := heap_alloc_new w _
  have bA := (Below.refl _ w).alloc (Nat.le_refl _) (.cells #[.slice none 0 0, .int .i64 0, .int .i64 0, .int .i64 0, .int .i64 0] 48)
  rcases h with rfl | ⟨g, a, c, rfl, h1⟩
  · go_enter Tryz.func28, Tryz.ntmps28
    go_wp2_with fail
    exact bodyPost_ret (v := .tuple #[zEnt, .slice none 0 0, .bool false]) (ent_results _ rfl _ _ _ (by kernel_rfl) (by kernel_rfl) (by kernel_rfl) (cell_of_row _ _ _ _ _ _ qA) (cell_of_row _ _ _ _ _ _ qA) (cell_of_row _ _ _ _ _ _ qA) (cell_of_row _ _ _ _ _ _ qA) (cell_of_row _ _ _ _ _ _ qA)) rfl ⟨rfl, bA⟩
  · have h1' := Lib.cell?_alloc_some (.cells #[.slice none 0 0, .int .i64 0, .int .i64 0, .int .i64 0, .int .i64 0] 48) h1
    go_enter Tryz.func28, Tryz.ntmps28
    go_wp2_with fail
    exact bodyPost_ret (v := .tuple #[zEnt, .slice none 0 0, .bool false]) (ent_results _ rfl _ _ _ (by kernel_rfl) (by kernel_rfl) (by kernel_rfl) (cell_of_row _ _ _ _ _ _ qA) (cell_of_row _ _ _ _ _ _ qA) (cell_of_row _ _ _ _ _ _ qA) (cell_of_row _ _ _ _ _ _ qA) (cell_of_row _ _ _ _ _ _ qA)) rfl ⟨rfl, bA⟩
end Go.Proofs.YtiffbbcgailmnaaGreatDoor

namespace Go.Proofs.YtiffbbcgailmnaaGreatDoor
open Go.RowKit Go.Joins
open Cd (Sam Sm canS encS samD SamOK IsPack BitsTab DbTab SamsOK vsm rdy_unit)
set_option linter.unusedVariables false
theorem set5_row {W : World} {g : Nat} {a b c d f : Value} {t : TypeId} {fz : Nat × Nat} (h : W.heap[g]? = some (.cells #[a, b, c, d, f] t fz)) (x0 x1 x2 x3 x4 : Value) : (((((W.setCell ⟨g, 0, none⟩ x0).setCell ⟨g, 1, none⟩ x1).setCell ⟨g, 2, none⟩ x2).setCell ⟨g, 3, none⟩ x3).setCell ⟨g, 4, none⟩ x4).heap[g]? = some (.cells #[x0, x1, x2, x3, x4] t fz) :=
  block_setCell (block_setCell (block_setCell (block_setCell (block_setCell h x0) x1) x2) x3) x4
theorem set5_other {W : World} {g k : Nat} (hk : k ≠ g) (x0 x1 x2 x3 x4 : Value) : (((((W.setCell ⟨g, 0, none⟩ x0).setCell ⟨g, 1, none⟩ x1).setCell ⟨g, 2, none⟩ x2).setCell ⟨g, 3, none⟩ x3).setCell ⟨g, 4, none⟩ x4).heap[k]? = W.heap[k]? := by
  rw [Below.heap_setCell _ ⟨g, 4, none⟩ _ _ hk, Below.heap_setCell _ ⟨g, 3, none⟩ _ _ hk, Below.heap_setCell _ ⟨g, 2, none⟩ _ _ hk, Below.heap_setCell _ ⟨g, 1, none⟩ _ _ hk, Below.heap_setCell _ ⟨g, 0, none⟩ _ _ hk]
theorem bs_keep {w w' : World} {g b off len : Nat} {zs : List Nat} (h : Bs w (some ⟨b, off, none⟩) len zs) (ko : ∀ k, k ≠ g → w'.heap[k]? = w.heap[k]?) (hbg : b ≠ g) (n : Nat) (hn : n ≤ len) : Bs w' (some ⟨b, off + n, none⟩) (len - n) (zs.drop n) := by
  obtain ⟨h1, h2, h3, h4, h5⟩ := h
  refine ⟨by rw [List.length_drop, h1], by omega, fun x hx => h3 x (List.mem_of_mem_drop hx), (fun e => by cases e), fun x hx j hj => ?_⟩
  cases hx
  have := h5 _ rfl (n + j) (by omega)
  rw [ladd_none] at this ⊢
  rw [World.cell?_of_block (w := w) (ko b hbg), Nat.add_assoc, this, List.getD_eq_getElem?_getD, List.getD_eq_getElem?_getD, List.getElem?_drop]
theorem bs_zero {w : World} {zs : List Nat} {n len : Nat} (x : Addr) (h : zs.length ≤ n) (hl : len = 0) : Bs w (some x) len (zs.drop n) := by
  subst hl
  rw [List.drop_of_length_le h]
  exact ⟨rfl, Nat.zero_le _, (fun x hx => by cases hx), (fun e => by cases e), fun x _ j hj => by omega⟩
theorem cell_kept9 {w w' : World} {g e0 : Nat} {p : Addr} {v a b c d e f i j k : Value} {t t' : TypeId} (hc : w.cell? p = some v) (hg : w.heap[g]? = some (.cells #[a, b, c, d] t (0, 0))) (he : w.heap[e0]? = some (.cells #[e, f, i, j, k] t' (0, 0))) (hk : ∀ k, k < w.heap.size → k ≠ g → k ≠ e0 → w'.heap[k]? = w.heap[k]?)
    (h1 : ∀ u ∈ [a, b, c, d, e, f, i, j, k], v ≠ u) : w'.cell? p = some v := by
  obtain ⟨pb, po, sp⟩ := p
  have hs : sp = none := by simpa using World.cell?_spot hc
  subst hs
  have hlt := block_lt_of_cell hc
  have n1 : pb ≠ g := fun e => by
    subst e
    rw [cell_of_row _ _ _ _ _ _ hg] at hc
    have := Array.mem_of_getElem? hc
    simp only [List.mem_toArray] at this
    exact h1 v (by simp only [List.mem_cons, List.not_mem_nil, or_false] at this ⊢; rcases this with h | h | h | h <;> simp [h]) rfl
  have n2 : pb ≠ e0 := fun e => by
    subst e
    rw [cell_of_row _ _ _ _ _ _ he] at hc
    have := Array.mem_of_getElem? hc
    simp only [List.mem_toArray] at this
    exact h1 v (by simp only [List.mem_cons, List.not_mem_nil, or_false] at this ⊢; rcases this with h | h | h | h | h <;> simp [h]) rfl
  rw [← hc]
  exact World.cell?_of_block (hk pb hlt n1 n2)
theorem ls_kept9 {w w' : World} {g e0 : Nat} {A : Option Addr} {n len cap : Nat} {at' er : Int} {r : Option Addr} {ls : List Lab} (h : Ls w A n ls) (hg : w.heap[g]? = some (.cells #[.bool true, .slice r len cap, .int .i64 at', .int .i64 er] 73 (0, 0))) (he : w.heap[e0]? = some (.cells #[.slice none 0 0, .int .i64 0, .int .i64 0, .int .i64 0, .int .i64 0] 48 (0, 0))) (hk : ∀ k, k < w.heap.size → k ≠ g → k ≠ e0 → w'.heap[k]? = w.heap[k]?) : Ls w' A n ls := by
  obtain ⟨h1, h2, h3, h4, h5⟩ := h
  exact ⟨h1, h2, h3, h4, fun z hz j hj => ⟨cell_kept9 (h5 z hz j hj).1 hg he hk (by intro u hu; simp at hu; rcases hu with rfl | rfl | rfl | rfl | rfl | rfl <;> simp), cell_kept9 (h5 z hz j hj).2 hg he hk (by intro u hu; simp at hu; rcases hu with rfl | rfl | rfl | rfl | rfl | rfl <;> simp)⟩⟩
theorem sm_kept9 {w w' : World} {sb so n : Nat} {l : List Sam} (h : Sm w (some ⟨sb, so, none⟩) n l) (hk : w'.heap[sb]? = w.heap[sb]?) : Sm w' (some ⟨sb, so, none⟩) n l := by
  obtain ⟨h1, h2, h3, h4, h5⟩ := h
  refine ⟨h1, h2, h3, h4, fun z hz j hj => ?_⟩
  cases hz
  have := h5 _ rfl j hj
  rw [ladd_none, ladd_none] at this ⊢
  rw [World.cell?_of_block (w := w) (a := ⟨sb, _, none⟩) hk, World.cell?_of_block (w := w) (a := ⟨sb, _, none⟩) hk]
  exact this
theorem bs_move {w w' : World} {b off len : Nat} {zs : List Nat} (h : Bs w (some ⟨b, off, none⟩) len zs) (hk : w'.heap[b]? = w.heap[b]?) : Bs w' (some ⟨b, off, none⟩) len zs := by
  obtain ⟨h1, h2, h3, h4, h5⟩ := h
  refine ⟨h1, h2, h3, h4, fun x hx j hj => ?_⟩
  cases hx
  have := h5 _ rfl j hj
  rw [ladd_none] at this ⊢
  rw [World.cell?_of_block (w := w) (a := ⟨b, _, none⟩) hk]
  exact this
theorem blk_ne {w : World} {g sb : Nat} {cs ds : Array Value} {t t' : TypeId} (hg : w.heap[g]? = some (.cells cs t (0, 0))) (hs : w.heap[sb]? = some (.cells ds t' (0, 0))) (h : t ≠ t') : sb ≠ g := fun e => by
  rw [e, hg] at hs
  cases hs
  exact h rfl
/-- What Next tells of the bytes zs. -/
def NxPost (w : World) (g : Nat) (zs : List Nat) (at' er : Int) (e : Ending) (w' : World) : Prop :=
  w.grownBy w' (some g) ∧
    ((∃ (s : Ser) (n : Nat) (a : Option Addr) (cap : Nat), TkOK zs s.ls s.sm n ∧ e = .returned (.tuple #[.agg #[.slice s.la s.ll s.lc, .int .i64 at', .int .i64 (n : Int), .int .i64 (samD s.sm 0).t, .int .i64 (samD s.sm (s.sl - 1)).t], .slice s.sa s.sl s.sc, .bool true]) ∧ s.ok w' ∧ Cur w' g a (zs.length - n) cap (zs.drop n) (wrap64 (at' + n)) er) ∨
     ((∀ ls sm n, ¬ TkOK zs ls sm n) ∧ e = .returned (.tuple #[zEnt, .slice none 0 0, .bool false]) ∧ Cur w' g none 0 0 [] at' 5))
set_option maxHeartbeats 4000000 in
set_option maxRecDepth 100000 in
theorem next_any (g b off len cap : Nat) (zs : List Nat) (at' er : Int) (w : World) (h : Cur w g (some ⟨b, off, none⟩) len cap zs at' er) (h0 : 0 < len) (hbg : b ≠ g) (hT : BitsTab w) :
    Calls Tryz.prog 28 #[.pointer (some ⟨g, 0, none⟩)] w (NxPost w g zs at' er) := by
  obtain ⟨hq, hB, hlc, hcm, hl9⟩ := h
  have hgw : g < w.heap.size := (Array.getElem?_eq_some_iff.1 hq).1
  obtain ⟨wE, hwE⟩ : ∃ wE, wE = w.alloc (.cells #[.slice none 0 0, .int .i64 0, .int .i64 0, .int .i64 0, .int .i64 0] 48) := ⟨_, rfl⟩
  have bE : Below w.heap.size w wE := by rw [hwE]; exact (Below.refl _ w).alloc (Nat.le_refl _) _
  have qE : wE.heap[w.heap.size]? = some (.cells #[.slice none 0 0, .int .i64 0, .int .i64 0, .int .i64 0, .int .i64 0] 48 (0, 0)) := by rw [hwE]; exact heap_alloc_new w _
  have qg := (bE.block g hgw).trans hq
  have k1 : (w.alloc (.cells #[.slice none 0 0, .int .i64 0, .int .i64 0, .int .i64 0, .int .i64 0] 48)).cell? ⟨g, 1, none⟩ = some (.slice (some ⟨b, off, none⟩) len cap) := by rw [← hwE]; exact cell_of_row _ _ _ _ _ _ qg
  have HT := hidn (takeChunk_any b off len cap zs wE (hB.below bE) hl9 hlc hcm (hT.below bE))
  have hl0 : ((len : Int) == 0) = false := beq_eq_false_iff_ne.2 (by omega)
  have HWE := hidn hwE
  obtain ⟨e0, he0⟩ : ∃ e0, e0 = w.heap.size := ⟨_, rfl⟩
  have HE0 := hidn he0
  rw [← he0] at qE
  have hge : g ≠ e0 := by omega
  clear hwE
  go_enter Tryz.func28, Tryz.ntmps28
  go_wp2_with fail
  rw [← HWE.out, ← HE0.out]
  clear he0 k1
  refine HT.out.mono ?_
  rintro e w1 ⟨b1, hcase⟩
  have B1 := bE.trans (b1.mono bE.size)
  have q1 := (b1.block g (Array.getElem?_eq_some_iff.1 qg).1).trans qg
  have qe1 := (b1.block e0 (Array.getElem?_eq_some_iff.1 qE).1).trans qE
  rcases hcase with ⟨s, n, rfl, hok, hsok, hsab⟩ | ⟨rfl, hno⟩
  · obtain ⟨hs0, hs20⟩ : 0 < s.sm.length ∧ s.sm.length ≤ 20 := by obtain ⟨_, _, _, r, _, _, _, _, _, h1, h2⟩ := hok; exact ⟨h1, h2⟩
    obtain ⟨hn4, hnl⟩ : 4 ≤ n ∧ n ≤ len := by
      obtain ⟨h1, h2, h3, _⟩ := hok
      rw [hB.1] at h1 h2
      omega
    obtain ⟨la, ll, lc, ls, sa, sl, sc, sm⟩ := s
    obtain ⟨hL, hll, hS, hsc, hscm⟩ := hsok
    simp only at hL hll hS hsc hscm hok hs0 hs20 ⊢
    have hsl0 : 0 < sl := by rw [← hS.1]; exact hs0
    have hsl20 : sl ≤ 20 := by rw [← hS.1]; exact hs20
    obtain ⟨sb, so, rfl, hsb, hcs⟩ := hS.pos hsl0
    have hsbE : wE.heap.size ≤ sb := hsab _ rfl
    have hgE : g < wE.heap.size := (Array.getElem?_eq_some_iff.1 qg).1
    have heE : e0 < wE.heap.size := (Array.getElem?_eq_some_iff.1 qE).1
    have s1 : sb ≠ g := by omega
    have s2 : sb ≠ e0 := by omega
    have hbw : b < w.heap.size := by obtain ⟨b', off', e', hb', _⟩ := hB.pos h0; cases e'; exact hb'
    have s3 : b ≠ e0 := by have := HE0.out; omega
    clear hsbE hgE heE hsab
    obtain ⟨w2, hw2⟩ : ∃ w2, w2 = w1.alloc (.cells #[.slice la ll lc, .slice (some ⟨sb, so, none⟩) sl sc] 42) := ⟨_, rfl⟩
    have b2 : Below w1.heap.size w1 w2 := by rw [hw2]; exact (Below.refl _ w1).alloc (Nat.le_refl _) _
    have B2 := B1.trans (b2.mono B1.size)
    have q2 := (b2.block g (Array.getElem?_eq_some_iff.1 q1).1).trans q1
    have qe2 := (b2.block e0 (Array.getElem?_eq_some_iff.1 qe1).1).trans qe1
    obtain ⟨bx, hbx⟩ : ∃ bx, bx = w1.heap.size := ⟨_, rfl⟩
    have qx : w2.heap[bx]? = some (.cells #[.slice la ll lc, .slice (some ⟨sb, so, none⟩) sl sc] 42 (0, 0)) := by rw [hw2, hbx]; exact heap_alloc_new w1 _
    obtain ⟨t0, ht0⟩ : ∃ t0, t0 = (samD sm 0).t := ⟨_, rfl⟩
    obtain ⟨l1, hl1⟩ : ∃ l1, l1 = sl - 1 := ⟨_, rfl⟩
    obtain ⟨t1, ht1⟩ : ∃ t1, t1 = (samD sm l1).t := ⟨_, rfl⟩
    have y0 : w2.cell? ⟨sb, so, none⟩ = some (.int .i64 t0) := by
      rw [b2.cell (p := ⟨sb, so, none⟩) hsb, ht0]; have := (hcs 0 hsl0).1; simpa using this
    have y1 : w2.cell? ⟨sb, so + l1 * 2, none⟩ = some (.int .i64 t1) := by
      rw [b2.cell (p := ⟨sb, so + l1 * 2, none⟩) hsb, ht1]; exact (hcs l1 (by omega)).1
    have HW2 := hidn hw2
    have HBX := hidn hbx
    have HT0 := hidn ht0
    have HT1 := hidn ht1
    have HLs := hidn (hL.below b2)
    have HSm := hidn (hS.below b2)
    have HOK := hidn hok
    have hnl2 : (n : Int) ≤ (len : Int) := by omega
    have hsli : (sl : Int) - 1 = (l1 : Int) := by omega
    have hli : (l1 : Int) < (sl : Int) := by omega
    have hli2 : l1 < sl := by omega
    have HL1 := hidn hl1
    clear hw2 hbx ht0 ht1 hl1 hcs hok hL hS
    go_wp2_with fail
    rw [← HW2.out, ← HBX.out]
    refine wp_region_noPanic ?_
    refine wp_region_held_drew (S := fun w' => (w'.cell? ⟨bx, 0, none⟩ = some (.slice la ll lc) ∧ w'.cell? ⟨bx, 1, none⟩ = some (.slice (some ⟨sb, so, none⟩) sl sc)) ∧ w'.cell? ⟨g, 2, none⟩ = some (.int .i64 at') ∧ w'.cell? ⟨sb, so, none⟩ = some (.int .i64 t0) ∧ w'.cell? ⟨sb, so + l1 * 2, none⟩ = some (.int .i64 t1)) (by kernel_rfl) (⟨⟨cell_of_row _ _ _ _ _ _ qx, cell_of_row _ _ _ _ _ _ qx⟩, cell_of_row _ _ _ _ _ _ q2, y0, y1⟩) (fun hHeld => ?_)
    refine drawn_take (i := 0) (v := .pointer (some ⟨bx, 0, none⟩)) (some 38) rfl rfl (by kernel_rfl) (by kernel_rfl) (by kernel_rfl) (fun _ _ _ h => h) (Or.inl ⟨by kernel_rfl, fun wq hw => by go_simp⟩) hHeld ?_
    simp only [Act.put, List.setIfInBounds_toArray, List.set_cons_succ, List.set_cons_zero]
    refine drawn_take (i := 1) (v := .slice la ll lc) (some 39) rfl rfl (by kernel_rfl) (by kernel_rfl) (by kernel_rfl) (fun _ _ _ h => h) (Or.inl ⟨by kernel_rfl, fun wq hw => by obtain ⟨⟨g1, g2⟩, g3, g4, g5⟩ := hw; go_simp⟩) hHeld ?_
    simp only [Act.put, List.setIfInBounds_toArray, List.set_cons_succ, List.set_cons_zero]
    refine drawn_take (i := 2) (v := .pointer (some ⟨g, 0, none⟩)) (some 40) rfl rfl (by kernel_rfl) (by kernel_rfl) (by kernel_rfl) (fun _ _ _ h => h) (Or.inl ⟨by kernel_rfl, fun wq hw => by go_simp⟩) hHeld ?_
    simp only [Act.put, List.setIfInBounds_toArray, List.set_cons_succ, List.set_cons_zero]
    refine drawn_take (i := 3) (v := .pointer (some ⟨g, 0, none⟩)) (some 41) rfl rfl (by kernel_rfl) (by kernel_rfl) (by kernel_rfl) (fun _ _ _ h => h) (Or.inl ⟨by kernel_rfl, fun wq hw => by go_simp⟩) hHeld ?_
    simp only [Act.put, List.setIfInBounds_toArray, List.set_cons_succ, List.set_cons_zero]
    refine drawn_take (i := 4) (v := .pointer (some ⟨g, 2, none⟩)) (some 42) rfl rfl (by kernel_rfl) (by kernel_rfl) (by kernel_rfl) (fun _ _ _ h => h) (Or.inl ⟨by kernel_rfl, fun wq hw => by go_simp⟩) hHeld ?_
    simp only [Act.put, List.setIfInBounds_toArray, List.set_cons_succ, List.set_cons_zero]
    refine drawn_take (i := 5) (v := .int .i64 at') (some 43) rfl rfl (by kernel_rfl) (by kernel_rfl) (by kernel_rfl) (fun _ _ _ h => h) (Or.inl ⟨by kernel_rfl, fun wq hw => by obtain ⟨⟨g1, g2⟩, g3, g4, g5⟩ := hw; go_simp⟩) hHeld ?_
    simp only [Act.put, List.setIfInBounds_toArray, List.set_cons_succ, List.set_cons_zero]
    refine drawn_take (i := 6) (v := .int .i64 (n : Int)) (some 44) rfl rfl (by kernel_rfl) (by kernel_rfl) (by kernel_rfl) (fun _ _ _ h => h) (Or.inl ⟨by kernel_rfl, fun wq hw => by go_simp⟩) hHeld ?_
    simp only [Act.put, List.setIfInBounds_toArray, List.set_cons_succ, List.set_cons_zero]
    refine drawn_take (i := 7) (v := .pointer (some ⟨bx, 1, none⟩)) (some 45) rfl rfl (by kernel_rfl) (by kernel_rfl) (by kernel_rfl) (fun _ _ _ h => h) (Or.inl ⟨by kernel_rfl, fun wq hw => by go_simp⟩) hHeld ?_
    simp only [Act.put, List.setIfInBounds_toArray, List.set_cons_succ, List.set_cons_zero]
    refine drawn_take (i := 8) (v := .slice (some ⟨sb, so, none⟩) sl sc) (some 46) rfl rfl (by kernel_rfl) (by kernel_rfl) (by kernel_rfl) (fun _ _ _ h => h) (Or.inl ⟨by kernel_rfl, fun wq hw => by obtain ⟨⟨g1, g2⟩, g3, g4, g5⟩ := hw; go_simp⟩) hHeld ?_
    simp only [Act.put, List.setIfInBounds_toArray, List.set_cons_succ, List.set_cons_zero]
    refine drawn_take (i := 9) (v := .pointer (some ⟨sb, so, none⟩)) (some 47) rfl rfl (by kernel_rfl) (by kernel_rfl) (by kernel_rfl) (fun _ _ _ h => h) (Or.inl ⟨by kernel_rfl, fun wq hw => by go_simp⟩) hHeld ?_
    simp only [Act.put, List.setIfInBounds_toArray, List.set_cons_succ, List.set_cons_zero]
    refine drawn_take (i := 10) (v := .pointer (some ⟨sb, so, none⟩)) (some 48) rfl rfl (by kernel_rfl) (by kernel_rfl) (by kernel_rfl) (fun _ _ _ h => h) (Or.inl ⟨by kernel_rfl, fun wq hw => by go_simp⟩) hHeld ?_
    simp only [Act.put, List.setIfInBounds_toArray, List.set_cons_succ, List.set_cons_zero]
    refine drawn_take (i := 11) (v := .int .i64 t0) (some 49) rfl rfl (by kernel_rfl) (by kernel_rfl) (by kernel_rfl) (fun _ _ _ h => h) (Or.inl ⟨by kernel_rfl, fun wq hw => by obtain ⟨⟨g1, g2⟩, g3, g4, g5⟩ := hw; go_simp⟩) hHeld ?_
    simp only [Act.put, List.setIfInBounds_toArray, List.set_cons_succ, List.set_cons_zero]
    refine drawn_take (i := 12) (v := .pointer (some ⟨bx, 1, none⟩)) (some 50) rfl rfl (by kernel_rfl) (by kernel_rfl) (by kernel_rfl) (fun _ _ _ h => h) (Or.inl ⟨by kernel_rfl, fun wq hw => by go_simp⟩) hHeld ?_
    simp only [Act.put, List.setIfInBounds_toArray, List.set_cons_succ, List.set_cons_zero]
    refine drawn_take (i := 13) (v := .slice (some ⟨sb, so, none⟩) sl sc) (some 51) rfl rfl (by kernel_rfl) (by kernel_rfl) (by kernel_rfl) (fun _ _ _ h => h) (Or.inl ⟨by kernel_rfl, fun wq hw => by obtain ⟨⟨g1, g2⟩, g3, g4, g5⟩ := hw; go_simp⟩) hHeld ?_
    simp only [Act.put, List.setIfInBounds_toArray, List.set_cons_succ, List.set_cons_zero]
    refine drawn_take (i := 14) (v := .pointer (some ⟨bx, 1, none⟩)) (some 52) rfl rfl (by kernel_rfl) (by kernel_rfl) (by kernel_rfl) (fun _ _ _ h => h) (Or.inl ⟨by kernel_rfl, fun wq hw => by go_simp⟩) hHeld ?_
    simp only [Act.put, List.setIfInBounds_toArray, List.set_cons_succ, List.set_cons_zero]
    refine drawn_take (i := 15) (v := .slice (some ⟨sb, so, none⟩) sl sc) (some 53) rfl rfl (by kernel_rfl) (by kernel_rfl) (by kernel_rfl) (fun _ _ _ h => h) (Or.inl ⟨by kernel_rfl, fun wq hw => by obtain ⟨⟨g1, g2⟩, g3, g4, g5⟩ := hw; go_simp⟩) hHeld ?_
    simp only [Act.put, List.setIfInBounds_toArray, List.set_cons_succ, List.set_cons_zero]
    refine drawn_take (i := 16) (v := .int .i64 (sl : Int)) (some 54) rfl rfl (by kernel_rfl) (by kernel_rfl) (by kernel_rfl) (fun _ _ _ h => h) (Or.inl ⟨by kernel_rfl, fun wq hw => by go_simp⟩) hHeld ?_
    simp only [Act.put, List.setIfInBounds_toArray, List.set_cons_succ, List.set_cons_zero]
    refine drawn_take (i := 17) (v := .int .i64 (l1 : Int)) (some 55) rfl rfl (by kernel_rfl) (by kernel_rfl) (by kernel_rfl) (fun _ _ _ h => h) (Or.inl ⟨by kernel_rfl, fun wq hw => by go_simp; rw [IntKind.wrap_i64]; omega⟩) hHeld ?_
    simp only [Act.put, List.setIfInBounds_toArray, List.set_cons_succ, List.set_cons_zero]
    refine drawn_take (i := 18) (v := .pointer (some ⟨sb, so + l1 * 2, none⟩)) (some 56) rfl rfl (by kernel_rfl) (by kernel_rfl) (by kernel_rfl) (fun _ _ _ h => h) (Or.inl ⟨by kernel_rfl, fun wq hw => by go_simp⟩) hHeld ?_
    simp only [Act.put, List.setIfInBounds_toArray, List.set_cons_succ, List.set_cons_zero]
    refine drawn_take (i := 19) (v := .pointer (some ⟨sb, so + l1 * 2, none⟩)) (some 57) rfl rfl (by kernel_rfl) (by kernel_rfl) (by kernel_rfl) (fun _ _ _ h => h) (Or.inl ⟨by kernel_rfl, fun wq hw => by go_simp⟩) hHeld ?_
    simp only [Act.put, List.setIfInBounds_toArray, List.set_cons_succ, List.set_cons_zero]
    refine drawn_take (i := 20) (v := .int .i64 t1) (some 58) rfl rfl (by kernel_rfl) (by kernel_rfl) (by kernel_rfl) (fun _ _ _ h => h) (Or.inl ⟨by kernel_rfl, fun wq hw => by obtain ⟨⟨g1, g2⟩, g3, g4, g5⟩ := hw; go_simp⟩) hHeld ?_
    simp only [Act.put, List.setIfInBounds_toArray, List.set_cons_succ, List.set_cons_zero]
    refine drawn_take (i := 21) (v := .agg #[.slice la ll lc, .int .i64 at', .int .i64 (n : Int), .int .i64 t0, .int .i64 t1]) (some 59) rfl rfl (by kernel_rfl) (by kernel_rfl) (by kernel_rfl) (fun _ _ _ h => h) (Or.inl ⟨by kernel_rfl, fun wq hw => by go_simp⟩) hHeld ?_
    simp only [Act.put, List.setIfInBounds_toArray, List.set_cons_succ, List.set_cons_zero]
    have keep2 : ∀ o : Obj, (((w2.drew.alloc o).cell? ⟨bx, 0, none⟩ = some (.slice la ll lc) ∧ (w2.drew.alloc o).cell? ⟨bx, 1, none⟩ = some (.slice (some ⟨sb, so, none⟩) sl sc)) ∧ (w2.drew.alloc o).cell? ⟨g, 2, none⟩ = some (.int .i64 at') ∧ (w2.drew.alloc o).cell? ⟨sb, so, none⟩ = some (.int .i64 t0) ∧ (w2.drew.alloc o).cell? ⟨sb, so + l1 * 2, none⟩ = some (.int .i64 t1)) := fun o => by
      obtain ⟨⟨g1, g2⟩, g3, g4, g5⟩ := hHeld
      exact ⟨⟨Lib.cell?_alloc_some o g1, Lib.cell?_alloc_some o g2⟩, Lib.cell?_alloc_some o g3, Lib.cell?_alloc_some o g4, Lib.cell?_alloc_some o g5⟩
    refine wpAnyH_ready (rs := [22]) (by kernel_rfl) (by simp) ?_
    refine rdy_val (i := 22) rfl rfl (some 8) rfl (.pointer (some ⟨w2.heap.size, 0, none⟩)) (w2.drew.alloc (.cells #[.slice none 0 0, .int .i64 0, .int .i64 0, .int .i64 0, .int .i64 0] 48)) (by go_simp) (keep2 _) (fun hHeld => ?_) rdy_nil
    simp only [Act.put, List.setIfInBounds_toArray, List.set_cons_succ, List.set_cons_zero]
    refine wpAnyH_ready (rs := [23]) (by kernel_rfl) (by simp) ?_
    refine rdy_unit (i := 23) rfl rfl none rfl (w2.drew.alloc (.cells #[.slice la ll lc, .int .i64 at', .int .i64 (n : Int), .int .i64 t0, .int .i64 t1] 48)) (by go_simp) (keep2 _) (fun hHeld => ?_) rdy_nil
    simp only [Act.put]
    refine wpAnyH_done (by kernel_rfl) ?_ _
    refine NoPanic.normal ?_
    clear hHeld
    obtain ⟨w3, hw3⟩ : ∃ w3, w3 = w2.drew.alloc (.cells #[.slice la ll lc, .int .i64 at', .int .i64 (n : Int), .int .i64 t0, .int .i64 t1] 48) := ⟨_, rfl⟩
    obtain ⟨be, hbe⟩ : ∃ be, be = w2.heap.size := ⟨_, rfl⟩
    have b3 : Below w2.heap.size w2 w3 := by rw [hw3]; exact ((Below.refl _ w2).drew).alloc (Nat.le_refl _) _
    have qb3 : w3.heap[be]? = some (.cells #[.slice la ll lc, .int .i64 at', .int .i64 (n : Int), .int .i64 t0, .int .i64 t1] 48 (0, 0)) := by rw [hw3, hbe]; exact heap_alloc_new w2.drew _
    have q3 := (b3.block g (Array.getElem?_eq_some_iff.1 q2).1).trans q2
    have qe3 := (b3.block e0 (Array.getElem?_eq_some_iff.1 qe2).1).trans qe2
    have qx3 := (b3.block bx (Array.getElem?_eq_some_iff.1 qx).1).trans qx
    have B3 := B2.trans (b3.mono B2.size)
    have lg2 := (Array.getElem?_eq_some_iff.1 q2).1
    have le2 := (Array.getElem?_eq_some_iff.1 qe2).1
    have lx2 := (Array.getElem?_eq_some_iff.1 qx).1
    have le1 := (Array.getElem?_eq_some_iff.1 qe1).1
    have lg1 := (Array.getElem?_eq_some_iff.1 q1).1
    have HBE := hidn hbe
    have n1 : ¬ be = g := by omega
    have n2 : ¬ be = e0 := by omega
    have n3 : ¬ bx = g := by have := HBX.out; omega
    have n4 : ¬ bx = e0 := by have := HBX.out; omega
    have n5 : ¬ e0 = g := fun e => hge e.symm
    have n6 : ¬ g = e0 := hge
    rw [← hw3, ← hbe]
    have d1 : w3.cell? ⟨g, 1, none⟩ = some (.slice (some ⟨b, off, none⟩) len cap) := cell_of_row _ _ _ _ _ _ q3
    have fd1 : w3.frozen? ⟨g, 1, none⟩ = false := by simp [World.frozen?, q3]
    have d2 : w3.cell? ⟨g, 2, none⟩ = some (.int .i64 at') := cell_of_row _ _ _ _ _ _ q3
    have fd2 : w3.frozen? ⟨g, 2, none⟩ = false := by simp [World.frozen?, q3]
    have x0 : w3.cell? ⟨e0, 0, none⟩ = some (.slice none 0 0) := cell_of_row _ _ _ _ _ _ qe3
    have fx0 : w3.frozen? ⟨e0, 0, none⟩ = false := by simp [World.frozen?, qe3]
    have x1 : w3.cell? ⟨e0, 1, none⟩ = some (.int .i64 0) := cell_of_row _ _ _ _ _ _ qe3
    have fx1 : w3.frozen? ⟨e0, 1, none⟩ = false := by simp [World.frozen?, qe3]
    have x2 : w3.cell? ⟨e0, 2, none⟩ = some (.int .i64 0) := cell_of_row _ _ _ _ _ _ qe3
    have fx2 : w3.frozen? ⟨e0, 2, none⟩ = false := by simp [World.frozen?, qe3]
    have x3 : w3.cell? ⟨e0, 3, none⟩ = some (.int .i64 0) := cell_of_row _ _ _ _ _ _ qe3
    have fx3 : w3.frozen? ⟨e0, 3, none⟩ = false := by simp [World.frozen?, qe3]
    have x4 : w3.cell? ⟨e0, 4, none⟩ = some (.int .i64 0) := cell_of_row _ _ _ _ _ _ qe3
    have fx4 : w3.frozen? ⟨e0, 4, none⟩ = false := by simp [World.frozen?, qe3]
    have z0 : w3.cell? ⟨be, 0, none⟩ = some (.slice la ll lc) := cell_of_row _ _ _ _ _ _ qb3
    have fz0 : w3.frozen? ⟨be, 0, none⟩ = false := by simp [World.frozen?, qb3]
    have z1 : w3.cell? ⟨be, 1, none⟩ = some (.int .i64 at') := cell_of_row _ _ _ _ _ _ qb3
    have fz1 : w3.frozen? ⟨be, 1, none⟩ = false := by simp [World.frozen?, qb3]
    have z2 : w3.cell? ⟨be, 2, none⟩ = some (.int .i64 (n : Int)) := cell_of_row _ _ _ _ _ _ qb3
    have fz2 : w3.frozen? ⟨be, 2, none⟩ = false := by simp [World.frozen?, qb3]
    have z3 : w3.cell? ⟨be, 3, none⟩ = some (.int .i64 t0) := cell_of_row _ _ _ _ _ _ qb3
    have fz3 : w3.frozen? ⟨be, 3, none⟩ = false := by simp [World.frozen?, qb3]
    have z4 : w3.cell? ⟨be, 4, none⟩ = some (.int .i64 t1) := cell_of_row _ _ _ _ _ _ qb3
    have fz4 : w3.frozen? ⟨be, 4, none⟩ = false := by simp [World.frozen?, qb3]
    have m1 : w3.cell? ⟨bx, 1, none⟩ = some (.slice (some ⟨sb, so, none⟩) sl sc) := cell_of_row _ _ _ _ _ _ qx3
    have fm1 : w3.frozen? ⟨bx, 1, none⟩ = false := by simp [World.frozen?, qx3]
    have HB3 := hidn ((hB.below B1).below (b2.trans (b3.mono b2.size)))
    have HW3 := hidn hw3
    clear hw3 hbe y0 y1 keep2 lg2 le2 lx2 le1 lg1
    by_cases hnc : cap = n
    · have hln : len = n := by omega
      subst hnc
      subst hln
      go_wp2_with fail
      obtain ⟨w4, hw4⟩ : ∃ w4, w4 = (w3.setCell ⟨g, 1, none⟩ (.slice (some ⟨b, off, none⟩) 0 0)).setCell ⟨g, 2, none⟩ (.int .i64 (wrap64 (at' + (len : Int)))) := ⟨_, rfl⟩
      rw [← hw4]
      have q4 : w4.heap[g]? = some (.cells #[.bool true, .slice (some ⟨b, off, none⟩) 0 0, .int .i64 (wrap64 (at' + (len : Int))), .int .i64 er] 73 (0, 0)) := by rw [hw4]; exact block_setCell (block_setCell q3 _) _
      have ko : ∀ k, k ≠ g → w4.heap[k]? = w3.heap[k]? := fun k h1 => by rw [hw4, Below.heap_setCell _ ⟨g, 2, none⟩ _ _ h1, Below.heap_setCell _ ⟨g, 1, none⟩ _ _ h1]
      have qe4 := (ko e0 n5).trans qe3
      have qb4 := (ko be n1).trans qb3
      have qx4 := (ko bx n3).trans qx3
      have bz4 : Below 0 w3 w4 := by rw [hw4]; exact (((Below.refl 0 w3).setCell (p := ⟨g, 1, none⟩) (Nat.zero_le _) _).setCell (p := ⟨g, 2, none⟩) (Nat.zero_le _) _)
      have z40 : w4.cell? ⟨be, 0, none⟩ = some (.slice la ll lc) := cell_of_row _ _ _ _ _ _ qb4
      have z41 : w4.cell? ⟨be, 1, none⟩ = some (.int .i64 at') := cell_of_row _ _ _ _ _ _ qb4
      have z42 : w4.cell? ⟨be, 2, none⟩ = some (.int .i64 (len : Int)) := cell_of_row _ _ _ _ _ _ qb4
      have z43 : w4.cell? ⟨be, 3, none⟩ = some (.int .i64 t0) := cell_of_row _ _ _ _ _ _ qb4
      have z44 : w4.cell? ⟨be, 4, none⟩ = some (.int .i64 t1) := cell_of_row _ _ _ _ _ _ qb4
      have m41 : w4.cell? ⟨bx, 1, none⟩ = some (.slice (some ⟨sb, so, none⟩) sl sc) := cell_of_row _ _ _ _ _ _ qx4
      have x40 : w4.cell? ⟨e0, 0, none⟩ = some (.slice none 0 0) := cell_of_row _ _ _ _ _ _ qe4
      have x41 : w4.cell? ⟨e0, 1, none⟩ = some (.int .i64 0) := cell_of_row _ _ _ _ _ _ qe4
      have x42 : w4.cell? ⟨e0, 2, none⟩ = some (.int .i64 0) := cell_of_row _ _ _ _ _ _ qe4
      have x43 : w4.cell? ⟨e0, 3, none⟩ = some (.int .i64 0) := cell_of_row _ _ _ _ _ _ qe4
      have x44 : w4.cell? ⟨e0, 4, none⟩ = some (.int .i64 0) := cell_of_row _ _ _ _ _ _ qe4
      have y40 : w4.frozen? ⟨e0, 0, none⟩ = false := by simp [World.frozen?, qe4]
      have y41 : w4.frozen? ⟨e0, 1, none⟩ = false := by simp [World.frozen?, qe4]
      have y42 : w4.frozen? ⟨e0, 2, none⟩ = false := by simp [World.frozen?, qe4]
      have y43 : w4.frozen? ⟨e0, 3, none⟩ = false := by simp [World.frozen?, qe4]
      have y44 : w4.frozen? ⟨e0, 4, none⟩ = false := by simp [World.frozen?, qe4]
      have HB4 : Hid (Bs w4 (some ⟨b, off, none⟩) 0 (zs.drop len)) := hidn (bs_zero _ (by rw [hB.1]; exact Nat.le_refl _) rfl)
      clear hw4 d1 fd1 d2 fd2 x0 fx0 z0 fz0 x1 fx1 z1 fz1 x2 fx2 z2 fz2 x3 fx3 z3 fz3 x4 fx4 z4 fz4 m1 fm1
      go_region
      go_wp2_with fail
      obtain ⟨W9, hW9⟩ : ∃ W9, W9 = (((((w4.setCell ⟨e0, 0, none⟩ (.slice la ll lc)).setCell ⟨e0, 1, none⟩ (.int .i64 at')).setCell ⟨e0, 2, none⟩ (.int .i64 (len : Int))).setCell ⟨e0, 3, none⟩ (.int .i64 t0)).setCell ⟨e0, 4, none⟩ (.int .i64 t1)).drew := ⟨_, rfl⟩
      rw [← hW9]
      have qz : W9.heap[e0]? = some (.cells #[.slice la ll lc, .int .i64 at', .int .i64 (len : Int), .int .i64 t0, .int .i64 t1] 48 (0, 0)) := by rw [hW9]; exact set5_row qe4 _ _ _ _ _
      have ko9 : ∀ k, k ≠ e0 → W9.heap[k]? = w4.heap[k]? := fun k h1 => by rw [hW9]; exact set5_other h1 _ _ _ _ _
      have bz9 : Below 0 w4 W9 := by rw [hW9]; exact ((((((Below.refl 0 w4).setCell (p := ⟨e0, 0, none⟩) (Nat.zero_le _) _).setCell (p := ⟨e0, 1, none⟩) (Nat.zero_le _) _).setCell (p := ⟨e0, 2, none⟩) (Nat.zero_le _) _).setCell (p := ⟨e0, 3, none⟩) (Nat.zero_le _) _).setCell (p := ⟨e0, 4, none⟩) (Nat.zero_le _) _).drew
      have HF : Hid (NxPost w g zs at' er (.returned (.tuple #[.agg #[.slice la ll lc, .int .i64 at', .int .i64 (len : Int), .int .i64 t0, .int .i64 t1], .slice (some ⟨sb, so, none⟩) sl sc, .bool true])) W9) := hidn (by
        have hk9 : ∀ k, k < w3.heap.size → k ≠ g → k ≠ e0 → W9.heap[k]? = w3.heap[k]? := fun k _ h1 h2 => (ko9 k h2).trans (ko k h1)
        refine ⟨⟨bz9.os.trans (bz4.os.trans B3.os), bz9.tape.trans (bz4.tape.trans B3.tape), bz9.output.trans (bz4.output.trans B3.output), Nat.le_trans B3.size (Nat.le_trans bz4.size bz9.size), fun k hk hne => ?_⟩, .inl ⟨⟨la, ll, lc, ls, some ⟨sb, so, none⟩, sl, sc, sm⟩, len, some ⟨b, off, none⟩, 0, HOK.out, ?_, ⟨?_, hll, ?_, hsc, hscm⟩, ?_, ?_, ?_, ?_, ?_⟩⟩
        · rw [hk9 k (Nat.lt_of_lt_of_le hk B3.size) (fun e => hne (by rw [e])) (by have := HE0.out; omega)]
          exact B3.block k hk
        · rw [HT0.out, HT1.out, HL1.out]
        · exact ls_kept9 (HLs.out.below b3) q3 qe3 hk9
        · exact sm_kept9 (HSm.out.below b3) (hk9 sb (Nat.lt_of_lt_of_le hsb (Nat.le_trans b2.size b3.size)) s1 s2)
        · rw [show zs.length - len = 0 from by rw [hB.1]; omega]
          exact (ko9 g n6).trans q4
        · rw [show zs.length - len = 0 from by rw [hB.1]; omega]
          exact bs_move HB4.out (ko9 b s3)
        · rw [hB.1]; omega
        · exact Nat.zero_le _
        · rw [hB.1]; omega)
      clear hW9 ko9 bz9
      exact bodyPost_ret (v := .tuple #[.agg #[.slice la ll lc, .int .i64 at', .int .i64 (len : Int), .int .i64 t0, .int .i64 t1], .slice (some ⟨sb, so, none⟩) sl sc, .bool true]) (ent_results _ rfl _ _ _ (by kernel_rfl) (by kernel_rfl) (by kernel_rfl) (cell_of_row _ _ _ _ _ _ qz) (cell_of_row _ _ _ _ _ _ qz) (cell_of_row _ _ _ _ _ _ qz) (cell_of_row _ _ _ _ _ _ qz) (cell_of_row _ _ _ _ _ _ qz)) rfl HF.out
    · have hnc2 : ¬ (cap - n = 0) := by omega
      have n7 : n ≤ len := hnl
      have n8 : (0 : Int) ≤ (n : Int) := by omega
      go_wp2_with fail
      obtain ⟨w4, hw4⟩ : ∃ w4, w4 = (w3.setCell ⟨g, 1, none⟩ (.slice (some ⟨b, off + n, none⟩) (len - n) (cap - n))).setCell ⟨g, 2, none⟩ (.int .i64 (wrap64 (at' + (n : Int)))) := ⟨_, rfl⟩
      rw [← hw4]
      have q4 : w4.heap[g]? = some (.cells #[.bool true, .slice (some ⟨b, off + n, none⟩) (len - n) (cap - n), .int .i64 (wrap64 (at' + (n : Int))), .int .i64 er] 73 (0, 0)) := by rw [hw4]; exact block_setCell (block_setCell q3 _) _
      have ko : ∀ k, k ≠ g → w4.heap[k]? = w3.heap[k]? := fun k h1 => by rw [hw4, Below.heap_setCell _ ⟨g, 2, none⟩ _ _ h1, Below.heap_setCell _ ⟨g, 1, none⟩ _ _ h1]
      have qe4 := (ko e0 n5).trans qe3
      have qb4 := (ko be n1).trans qb3
      have qx4 := (ko bx n3).trans qx3
      have bz4 : Below 0 w3 w4 := by rw [hw4]; exact (((Below.refl 0 w3).setCell (p := ⟨g, 1, none⟩) (Nat.zero_le _) _).setCell (p := ⟨g, 2, none⟩) (Nat.zero_le _) _)
      have z40 : w4.cell? ⟨be, 0, none⟩ = some (.slice la ll lc) := cell_of_row _ _ _ _ _ _ qb4
      have z41 : w4.cell? ⟨be, 1, none⟩ = some (.int .i64 at') := cell_of_row _ _ _ _ _ _ qb4
      have z42 : w4.cell? ⟨be, 2, none⟩ = some (.int .i64 (n : Int)) := cell_of_row _ _ _ _ _ _ qb4
      have z43 : w4.cell? ⟨be, 3, none⟩ = some (.int .i64 t0) := cell_of_row _ _ _ _ _ _ qb4
      have z44 : w4.cell? ⟨be, 4, none⟩ = some (.int .i64 t1) := cell_of_row _ _ _ _ _ _ qb4
      have m41 : w4.cell? ⟨bx, 1, none⟩ = some (.slice (some ⟨sb, so, none⟩) sl sc) := cell_of_row _ _ _ _ _ _ qx4
      have x40 : w4.cell? ⟨e0, 0, none⟩ = some (.slice none 0 0) := cell_of_row _ _ _ _ _ _ qe4
      have x41 : w4.cell? ⟨e0, 1, none⟩ = some (.int .i64 0) := cell_of_row _ _ _ _ _ _ qe4
      have x42 : w4.cell? ⟨e0, 2, none⟩ = some (.int .i64 0) := cell_of_row _ _ _ _ _ _ qe4
      have x43 : w4.cell? ⟨e0, 3, none⟩ = some (.int .i64 0) := cell_of_row _ _ _ _ _ _ qe4
      have x44 : w4.cell? ⟨e0, 4, none⟩ = some (.int .i64 0) := cell_of_row _ _ _ _ _ _ qe4
      have y40 : w4.frozen? ⟨e0, 0, none⟩ = false := by simp [World.frozen?, qe4]
      have y41 : w4.frozen? ⟨e0, 1, none⟩ = false := by simp [World.frozen?, qe4]
      have y42 : w4.frozen? ⟨e0, 2, none⟩ = false := by simp [World.frozen?, qe4]
      have y43 : w4.frozen? ⟨e0, 3, none⟩ = false := by simp [World.frozen?, qe4]
      have y44 : w4.frozen? ⟨e0, 4, none⟩ = false := by simp [World.frozen?, qe4]
      have HB4 : Hid (Bs w4 (some ⟨b, off + n, none⟩) (len - n) (zs.drop n)) := hidn (bs_keep HB3.out ko hbg n hnl)
      clear hw4 d1 fd1 d2 fd2 x0 fx0 z0 fz0 x1 fx1 z1 fz1 x2 fx2 z2 fz2 x3 fx3 z3 fz3 x4 fx4 z4 fz4 m1 fm1
      go_region
      go_wp2_with fail
      obtain ⟨W9, hW9⟩ : ∃ W9, W9 = (((((w4.setCell ⟨e0, 0, none⟩ (.slice la ll lc)).setCell ⟨e0, 1, none⟩ (.int .i64 at')).setCell ⟨e0, 2, none⟩ (.int .i64 (n : Int))).setCell ⟨e0, 3, none⟩ (.int .i64 t0)).setCell ⟨e0, 4, none⟩ (.int .i64 t1)).drew := ⟨_, rfl⟩
      rw [← hW9]
      have qz : W9.heap[e0]? = some (.cells #[.slice la ll lc, .int .i64 at', .int .i64 (n : Int), .int .i64 t0, .int .i64 t1] 48 (0, 0)) := by rw [hW9]; exact set5_row qe4 _ _ _ _ _
      have ko9 : ∀ k, k ≠ e0 → W9.heap[k]? = w4.heap[k]? := fun k h1 => by rw [hW9]; exact set5_other h1 _ _ _ _ _
      have bz9 : Below 0 w4 W9 := by rw [hW9]; exact ((((((Below.refl 0 w4).setCell (p := ⟨e0, 0, none⟩) (Nat.zero_le _) _).setCell (p := ⟨e0, 1, none⟩) (Nat.zero_le _) _).setCell (p := ⟨e0, 2, none⟩) (Nat.zero_le _) _).setCell (p := ⟨e0, 3, none⟩) (Nat.zero_le _) _).setCell (p := ⟨e0, 4, none⟩) (Nat.zero_le _) _).drew
      have HF : Hid (NxPost w g zs at' er (.returned (.tuple #[.agg #[.slice la ll lc, .int .i64 at', .int .i64 (n : Int), .int .i64 t0, .int .i64 t1], .slice (some ⟨sb, so, none⟩) sl sc, .bool true])) W9) := hidn (by
        have hk9 : ∀ k, k < w3.heap.size → k ≠ g → k ≠ e0 → W9.heap[k]? = w3.heap[k]? := fun k _ h1 h2 => (ko9 k h2).trans (ko k h1)
        refine ⟨⟨bz9.os.trans (bz4.os.trans B3.os), bz9.tape.trans (bz4.tape.trans B3.tape), bz9.output.trans (bz4.output.trans B3.output), Nat.le_trans B3.size (Nat.le_trans bz4.size bz9.size), fun k hk hne => ?_⟩, .inl ⟨⟨la, ll, lc, ls, some ⟨sb, so, none⟩, sl, sc, sm⟩, n, some ⟨b, off + n, none⟩, cap - n, HOK.out, ?_, ⟨?_, hll, ?_, hsc, hscm⟩, ?_, ?_, ?_, ?_, ?_⟩⟩
        · rw [hk9 k (Nat.lt_of_lt_of_le hk B3.size) (fun e => hne (by rw [e])) (by have := HE0.out; omega)]
          exact B3.block k hk
        · rw [HT0.out, HT1.out, HL1.out]
        · exact ls_kept9 (HLs.out.below b3) q3 qe3 hk9
        · exact sm_kept9 (HSm.out.below b3) (hk9 sb (Nat.lt_of_lt_of_le hsb (Nat.le_trans b2.size b3.size)) s1 s2)
        · rw [show zs.length - n = len - n from by rw [hB.1]]
          exact (ko9 g n6).trans q4
        · rw [show zs.length - n = len - n from by rw [hB.1]]
          exact bs_move HB4.out (ko9 b s3)
        · rw [hB.1]; omega
        · omega
        · rw [hB.1]; omega)
      clear hW9 ko9 bz9
      exact bodyPost_ret (v := .tuple #[.agg #[.slice la ll lc, .int .i64 at', .int .i64 (n : Int), .int .i64 t0, .int .i64 t1], .slice (some ⟨sb, so, none⟩) sl sc, .bool true]) (ent_results _ rfl _ _ _ (by kernel_rfl) (by kernel_rfl) (by kernel_rfl) (cell_of_row _ _ _ _ _ _ qz) (cell_of_row _ _ _ _ _ _ qz) (cell_of_row _ _ _ _ _ _ qz) (cell_of_row _ _ _ _ _ _ qz) (cell_of_row _ _ _ _ _ _ qz)) rfl HF.out
  · obtain ⟨w2, hw2⟩ : ∃ w2, w2 = w1.alloc (.cells #[.slice none 0 0, .slice none 0 0] 42) := ⟨_, rfl⟩
    have b2 : Below w1.heap.size w1 w2 := by rw [hw2]; exact (Below.refl _ w1).alloc (Nat.le_refl _) _
    have B2 := B1.trans (b2.mono B1.size)
    have q2 := (b2.block g (Array.getElem?_eq_some_iff.1 q1).1).trans q1
    have qe2 := (b2.block e0 (Array.getElem?_eq_some_iff.1 qe1).1).trans qe1
    have d1 : (w1.alloc (.cells #[.slice none 0 0, .slice none 0 0] 42)).cell? ⟨g, 1, none⟩ = some (.slice (some ⟨b, off, none⟩) len cap) := by rw [← hw2]; exact cell_of_row _ _ _ _ _ _ q2
    have fd1 : (w1.alloc (.cells #[.slice none 0 0, .slice none 0 0] 42)).frozen? ⟨g, 1, none⟩ = false := by rw [← hw2]; simp [World.frozen?, q2]
    have d3 : (w1.alloc (.cells #[.slice none 0 0, .slice none 0 0] 42)).cell? ⟨g, 3, none⟩ = some (.int .i64 er) := by rw [← hw2]; exact cell_of_row _ _ _ _ _ _ q2
    have fd3 : (w1.alloc (.cells #[.slice none 0 0, .slice none 0 0] 42)).frozen? ⟨g, 3, none⟩ = false := by rw [← hw2]; simp [World.frozen?, q2]
    have x0 : (w1.alloc (.cells #[.slice none 0 0, .slice none 0 0] 42)).cell? ⟨e0, 0, none⟩ = some (.slice none 0 0) := by rw [← hw2]; exact cell_of_row _ _ _ _ _ _ qe2
    have fx0 : (w1.alloc (.cells #[.slice none 0 0, .slice none 0 0] 42)).frozen? ⟨e0, 0, none⟩ = false := by rw [← hw2]; simp [World.frozen?, qe2]
    have x1 : (w1.alloc (.cells #[.slice none 0 0, .slice none 0 0] 42)).cell? ⟨e0, 1, none⟩ = some (.int .i64 0) := by rw [← hw2]; exact cell_of_row _ _ _ _ _ _ qe2
    have fx1 : (w1.alloc (.cells #[.slice none 0 0, .slice none 0 0] 42)).frozen? ⟨e0, 1, none⟩ = false := by rw [← hw2]; simp [World.frozen?, qe2]
    have x2 : (w1.alloc (.cells #[.slice none 0 0, .slice none 0 0] 42)).cell? ⟨e0, 2, none⟩ = some (.int .i64 0) := by rw [← hw2]; exact cell_of_row _ _ _ _ _ _ qe2
    have fx2 : (w1.alloc (.cells #[.slice none 0 0, .slice none 0 0] 42)).frozen? ⟨e0, 2, none⟩ = false := by rw [← hw2]; simp [World.frozen?, qe2]
    have x3 : (w1.alloc (.cells #[.slice none 0 0, .slice none 0 0] 42)).cell? ⟨e0, 3, none⟩ = some (.int .i64 0) := by rw [← hw2]; exact cell_of_row _ _ _ _ _ _ qe2
    have fx3 : (w1.alloc (.cells #[.slice none 0 0, .slice none 0 0] 42)).frozen? ⟨e0, 3, none⟩ = false := by rw [← hw2]; simp [World.frozen?, qe2]
    have x4 : (w1.alloc (.cells #[.slice none 0 0, .slice none 0 0] 42)).cell? ⟨e0, 4, none⟩ = some (.int .i64 0) := by rw [← hw2]; exact cell_of_row _ _ _ _ _ _ qe2
    have fx4 : (w1.alloc (.cells #[.slice none 0 0, .slice none 0 0] 42)).frozen? ⟨e0, 4, none⟩ = false := by rw [← hw2]; simp [World.frozen?, qe2]
    have hge2 : ¬ e0 = g := fun e => hge e.symm
    have hge3 : ¬ g = e0 := hge
    have HW2 := hidn hw2
    have HNO := hidn hno
    clear hw2 hno
    go_wp2_with (fail)
    rw [← HW2.out]
    obtain ⟨W9, hW9⟩ : ∃ W9, W9 = ((((((w2.setCell ⟨g, 1, none⟩ (.slice none 0 0)).setCell ⟨g, 3, none⟩ (.int .i64 5)).setCell ⟨e0, 0, none⟩ (.slice none 0 0)).setCell ⟨e0, 1, none⟩ (.int .i64 0)).setCell ⟨e0, 2, none⟩ (.int .i64 0)).setCell ⟨e0, 3, none⟩ (.int .i64 0)).setCell ⟨e0, 4, none⟩ (.int .i64 0) := ⟨_, rfl⟩
    rw [← hW9]
    have qg3 := block_setCell (i := 3) (block_setCell (i := 1) q2 (.slice none 0 0)) (.int .i64 5)
    have qe3 : ((w2.setCell ⟨g, 1, none⟩ (.slice none 0 0)).setCell ⟨g, 3, none⟩ (.int .i64 5)).heap[e0]? = some (.cells #[.slice none 0 0, .int .i64 0, .int .i64 0, .int .i64 0, .int .i64 0] 48 (0, 0)) := by
      rw [Below.heap_setCell _ ⟨g, 3, none⟩ _ _ hge2, Below.heap_setCell _ ⟨g, 1, none⟩ _ _ hge2]; exact qe2
    have qz : W9.heap[e0]? = some (.cells #[.slice none 0 0, .int .i64 0, .int .i64 0, .int .i64 0, .int .i64 0] 48 (0, 0)) := by rw [hW9]; exact set5_row qe3 _ _ _ _ _
    have qgz : W9.heap[g]? = some (.cells #[.bool true, .slice none 0 0, .int .i64 at', .int .i64 5] 73 (0, 0)) := by rw [hW9, set5_other hge]; exact qg3
    have hkp : ∀ k, k ≠ g → k ≠ e0 → W9.heap[k]? = w2.heap[k]? := fun k h1 h2 => by rw [hW9, set5_other h2, Below.heap_setCell _ ⟨g, 3, none⟩ _ _ h1, Below.heap_setCell _ ⟨g, 1, none⟩ _ _ h1]
    have bz : Below 0 w2 W9 := by rw [hW9]; exact ((((((((Below.refl 0 w2).setCell (p := ⟨g, 1, none⟩) (Nat.zero_le _) _).setCell (p := ⟨g, 3, none⟩) (Nat.zero_le _) _).setCell (p := ⟨e0, 0, none⟩) (Nat.zero_le _) _).setCell (p := ⟨e0, 1, none⟩) (Nat.zero_le _) _).setCell (p := ⟨e0, 2, none⟩) (Nat.zero_le _) _).setCell (p := ⟨e0, 3, none⟩) (Nat.zero_le _) _).setCell (p := ⟨e0, 4, none⟩) (Nat.zero_le _) _)
    have HF : Hid (NxPost w g zs at' er (.returned (.tuple #[zEnt, .slice none 0 0, .bool false])) W9) := hidn (by
      refine ⟨⟨bz.os.trans B2.os, bz.tape.trans B2.tape, bz.output.trans B2.output, Nat.le_trans B2.size bz.size, fun k hk hne => ?_⟩, .inr ⟨HNO.out, rfl, qgz, Bs.nil _, Nat.le_refl _, Nat.zero_le _, Nat.zero_le _⟩⟩
      rw [hkp k (fun e => hne (by rw [e])) (by have := HE0.out; omega)]
      exact B2.block k hk)
    clear hW9 qg3 qe3 hkp bz
    exact bodyPost_ret (v := .tuple #[zEnt, .slice none 0 0, .bool false]) (ent_results _ rfl _ _ _ (by kernel_rfl) (by kernel_rfl) (by kernel_rfl) (cell_of_row _ _ _ _ _ _ qz) (cell_of_row _ _ _ _ _ _ qz) (cell_of_row _ _ _ _ _ _ qz) (cell_of_row _ _ _ _ _ _ qz) (cell_of_row _ _ _ _ _ _ qz)) rfl HF.out
end Go.Proofs.YtiffbbcgailmnaaGreatDoor

namespace Go.Proofs.YtiffbbcgailmnaaGreatDoor
open Go.RowKit Go.Joins
open Cd (Sam Sm canS encS samD SamOK IsPack BitsTab DbTab SamsOK vsm)
set_option linter.unusedVariables false

def awLab : List Lab := [(⟨#[97]⟩, ⟨#[120]⟩)]

def awSam : List Sam := [⟨1, 2⟩]

def awSer (b : Nat) : Ser := ⟨some ⟨b, 0, none⟩, 1, 1, awLab, some ⟨b + 1, 0, none⟩, 1, 1, awSam⟩

theorem aw_ls (w : World) (b : Nat) (h : w.heap[b]? = some (.cells #[.string ⟨#[97]⟩, .string ⟨#[120]⟩] 35 (0, 0))) : Ls w (some ⟨b, 0, none⟩) 1 awLab := by
  refine ⟨rfl, by decide, ?_, (fun h => by cases h), ?_⟩
  · intro i
    match i with
    | 0 => exact ⟨by decide, by decide⟩
    | i + 1 => exact ⟨by show (ByteArray.empty).size ≤ _; decide, by show (ByteArray.empty).size ≤ _; decide⟩
  · intro x hx j hj
    cases hx
    obtain rfl : j = 0 := by omega
    rw [ladd_none, ladd_none]
    refine ⟨?_, ?_⟩
    · rw [cell_of_row _ _ _ _ _ _ h]; rfl
    · rw [cell_of_row _ _ _ _ _ _ h]; rfl

theorem aw_samsOK : SamsOK awSam := by
  intro i
  match i with
  | 0 => exact ⟨by decide, by decide, by decide⟩
  | i + 1 => exact Cd.samOK_zero

theorem aw_sm (w : World) (b : Nat) (h : w.heap[b]? = some (.cells #[.int .i64 1, .int .u64 2] 39 (0, 0))) : Sm w (some ⟨b, 0, none⟩) 1 awSam := by
  refine ⟨rfl, by decide, aw_samsOK, (fun h => by cases h), ?_⟩
  intro x hx j hj
  cases hx
  obtain rfl : j = 0 := by omega
  rw [ladd_none, ladd_none]
  refine ⟨?_, ?_⟩
  · rw [cell_of_row _ _ _ _ _ _ h]; rfl
  · rw [cell_of_row _ _ _ _ _ _ h]; rfl

theorem aw_canOK : canOK awLab = true := by decide +kernel

theorem aw_canS : canS awSam = true := by decide +kernel

theorem aw_can (b : Nat) : canSr ([awSer b].map Ser.pl) = true := by
  show canSr [(awLab, awSam)] = true
  decide +kernel

theorem aw_one (b : Nat) : allParts [awSer b] = [partAt (awSer b) 0] := by
  show partsOf (awSer b) ++ [] = _
  rw [List.append_nil]
  unfold partsOf
  rw [show ((awSer b).sl + 19) / 20 = 1 from (by show (1 + 19) / 20 = 1; decide)]
  rfl

theorem aw_parts (b : Nat) : (allParts [awSer b]).map Ser.pl = [(awLab, awSam)] := by rw [aw_one]; rfl

theorem aw_partsL (b : Nat) : (allParts [awSer b]).length = 1 := by rw [aw_one]; rfl

theorem cur_ne {w : World} {g b off len cap : Nat} {zs : List Nat} {at' er : Int} (h : Cur w g (some ⟨b, off, none⟩) len cap zs at' er) (h0 : 0 < len) : b ≠ g := fun e => by
  have hc := h.2.1.2.2.2.2 _ rfl 0 h0
  rw [ladd_none, e, cell_of_row _ _ _ _ _ _ h.1] at hc
  have := Array.mem_of_getElem? hc
  simp at this

end Go.Proofs.YtiffbbcgailmnaaGreatDoor
