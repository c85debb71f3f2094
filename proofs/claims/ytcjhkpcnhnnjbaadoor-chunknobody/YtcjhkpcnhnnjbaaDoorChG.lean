/- chunk.takeChunk. -/
import Derived.Test.YtcjhkpcnhnnjbaaDoorChC
import Derived.Test.YtcjhkpcnhnnjbaaDoorLabDec
import Derived.Test.YtcjhkpcnhnnjbaaDoorCodInj
import Derived.Test.YtcjhkpcnhnnjbaaDoorGetWalk
namespace Go.Proofs.YtcjhkpcnhnnjbaaDoor
open Go.RowKit Go.Joins
open Cd (Sam Sm canS encS samD SamOK IsPack BitsTab DbTab SamsOK vsm)
set_option linter.unusedVariables false
/-- The bytes begin with a chunk of n bytes, of these labels and samples. -/
def TkOK (zs : List Nat) (ls : List Lab) (sm : List Sam) (n : Nat) : Prop :=
  4 ≤ zs.length ∧ getB 0 (zs.take 4) ≤ zs.length - 4 ∧ n = 4 + getB 0 (zs.take 4) ∧
    ∃ r, decP ((zs.drop 4).take (getB 0 (zs.take 4))) = some (ls, r) ∧ canOK ls = true ∧ IsPack r (encS sm) ∧ canS sm = true ∧ SamsOK sm ∧ 0 < sm.length ∧ sm.length ≤ 20
theorem TkOK.same {zs : List Nat} {ls ls' : List Lab} {sm sm' : List Sam} {n n' : Nat} (h : TkOK zs ls sm n) (h' : TkOK zs ls' sm' n') : ls = ls' ∧ sm = sm' ∧ n = n' := by
  obtain ⟨_, _, rfl, r, h1, _, h2, h3, h4, _⟩ := h
  obtain ⟨_, _, rfl, r', h1', _, h2', h3', h4', _⟩ := h'
  rw [h1] at h1'
  simp only [Option.some.injEq, Prod.mk.injEq] at h1'
  obtain ⟨rfl, rfl⟩ := h1'
  exact ⟨rfl, Cd.pack_inj h4' h4 h3' h3 h2' h2, rfl⟩
theorem TkOK.chunk {ls : List Lab} {sm : List Sam} {p : List Nat} (hc : canOK ls = true) (hp : IsPack p (encS sm)) (hs : canS sm = true) (ho : SamsOK sm) (h0 : 0 < sm.length) (h20 : sm.length ≤ 20) (r : List Nat) : TkOK (chunkB ls p ++ r) ls sm (chunkB ls p).length := by
  have h1 := encTo_len ls hc ls.length (Nat.le_refl _)
  have h2 := ((canOK_iff ls).1 hc).2.1
  have h3 : (encN ls).length ≤ 1 + 66 * ls.length := h1
  have h4 := pack_len hp (by omega)
  have e4 : (chunkB ls p ++ r).take 4 = putB ((encN ls).length + p.length) 4 := by
    unfold chunkB
    rw [List.append_assoc, List.take_append_of_le_length (by rw [putB_length]; exact Nat.le_refl _), List.take_of_length_le (by rw [putB_length]; exact Nat.le_refl _)]
  have eg : getB 0 ((chunkB ls p ++ r).take 4) = (encN ls).length + p.length := by
    rw [e4, getB_putB, Nat.mod_eq_of_lt (by show _ < 4294967296; omega)]
  have el : (chunkB ls p).length = 4 + ((encN ls).length + p.length) := by unfold chunkB; rw [List.length_append, List.length_append, putB_length]
  refine ⟨by rw [List.length_append, el]; omega, by rw [eg, List.length_append, el]; omega, by rw [eg, el], p, ?_, hc, hp, hs, ho, h0, h20⟩
  rw [eg]
  have ed : (chunkB ls p ++ r).drop 4 = (encN ls ++ p) ++ r := by
    unfold chunkB
    rw [List.append_assoc, List.drop_append_of_le_length (by rw [putB_length]; exact Nat.le_refl _), List.drop_of_length_le (by rw [putB_length]; exact Nat.le_refl _), List.nil_append]
  rw [ed, List.take_append_of_le_length (by rw [List.length_append]; exact Nat.le_refl _), List.take_of_length_le (by rw [List.length_append]; exact Nat.le_refl _)]
  exact decP_enc ls p
def TkPost (w : World) (zs : List Nat) (e : Ending) (w' : World) : Prop :=
  Below w.heap.size w w' ∧ ((∃ (s : Ser) (n : Nat), e = .returned (.tuple #[.agg #[.slice s.la s.ll s.lc, .slice s.sa s.sl s.sc], .int .i64 (n : Int), .bool true]) ∧ TkOK zs s.ls s.sm n ∧ s.ok w' ∧ ∀ k, s.sa = some k → w.heap.size ≤ k.block) ∨
    (e = .returned (.tuple #[.agg #[.slice none 0 0, .slice none 0 0], .int .i64 0, .bool false]) ∧ ∀ ls sm n, ¬ TkOK zs ls sm n))
theorem bs_part {w : World} {b off len : Nat} {zs : List Nat} (h : Bs w (some ⟨b, off, none⟩) len zs) (i m : Nat) (him : i + m ≤ len) : Bs w (some ⟨b, off + i, none⟩) m ((zs.drop i).take m) := by
  obtain ⟨h1, h2, h3, h4, h5⟩ := h
  refine ⟨by rw [List.length_take, List.length_drop, h1]; omega, by omega, fun x hx => h3 x (List.mem_of_mem_drop (List.mem_of_mem_take hx)), (fun e => by cases e), fun x hx j hj => ?_⟩
  cases hx
  have := h5 _ rfl (i + j) (by omega)
  rw [ladd_none] at this ⊢
  rw [Nat.add_assoc, this, List.getD_eq_getElem?_getD, List.getD_eq_getElem?_getD, List.getElem?_take, if_pos hj, List.getElem?_drop]
theorem sm_of_own {w : World} {base : Nat} {v : Value} {l : List Sam} (h : w.ownsRow base 49 2 v l.length (vsm l)) (ho : SamsOK l) : ∃ a c, v = .slice a l.length c ∧ Sm w a l.length l ∧ l.length ≤ c ∧ c ≤ maxLen ∧ ∀ k, a = some k → base ≤ k.block := by
  have h' := h
  rcases h.2 with ⟨rfl, h0⟩ | ⟨g, cap, cur, rfl, hg, hh, hnc, hcm, hcs, htk⟩
  · obtain rfl : l = [] := List.length_eq_zero_iff.1 h0
    exact ⟨none, 0, rfl, Cd.Sm.nil w, Nat.le_refl _, by decide, fun k hk => by cases hk⟩
  · refine ⟨_, cap, rfl, ⟨rfl, by omega, ho, (fun h => by cases h), fun x hx j hj => ?_⟩, hnc, hcm, fun k hk => by cases hk; exact hg⟩
    cases hx
    obtain ⟨g1, g2⟩ := Cd.vsm_get l j hj
    exact ⟨h'.cells (g := g) rfl _ _ g1, h'.cells (g := g) rfl _ _ g2⟩
theorem pieceN_len {b x r : List Nat} (h : pieceN b = some (x, r)) : r.length ≤ b.length := by
  cases b with
  | nil => cases h
  | cons n t =>
    have h : (if t.length < n then none else some (t.take n, t.drop n)) = some (x, r) := h
    by_cases hl : t.length < n
    · rw [if_pos hl] at h; cases h
    · rw [if_neg hl] at h
      simp only [Option.some.injEq, Prod.mk.injEq] at h
      rw [← h.2]
      simp
      omega
theorem decN_len : ∀ (k : Nat) (b : List Nat) (ls : List Lab) (r : List Nat), decN k b = some (ls, r) → r.length ≤ b.length := by
  intro k
  induction k with
  | zero => intro b ls r h; simp only [decN, Option.some.injEq, Prod.mk.injEq] at h; rw [h.2]; exact Nat.le_refl _
  | succ k ih =>
    intro b ls r h
    cases h1 : pieceN b with
    | none => simp [decN, h1] at h
    | some q =>
      obtain ⟨n, b1⟩ := q
      cases h2 : pieceN b1 with
      | none => simp [decN, h1, h2] at h
      | some q2 =>
        obtain ⟨v, b2⟩ := q2
        simp only [decN, h1, h2] at h
        obtain ⟨⟨ls', r'⟩, h3, h4⟩ := Option.map_eq_some_iff.1 h
        simp only [addL, Prod.mk.injEq] at h4
        have := ih b2 ls' r' h3
        have := pieceN_len h1
        have := pieceN_len h2
        rw [← h4.2]
        omega
theorem decP_len {b : List Nat} {ls : List Lab} {r : List Nat} (h : decP b = some (ls, r)) : r.length ≤ b.length := by
  cases b with
  | nil => cases h
  | cons n t =>
    have := decN_len n t ls r (by simpa [decP] using h)
    simp
    omega
theorem cell_slice {W : World} {g : Nat} {t : TypeId} {p : Addr} {v : Value} (hg : W.heap[g]? = some (.cells #[.slice none 0 0, .slice none 0 0] t (0, 0))) (h : W.cell? p = some v) (hp : p.block = g) : v = .slice none 0 0 := by
  obtain ⟨b, o, sp⟩ := p
  have hs : sp = none := by simpa using World.cell?_spot h
  subst hs
  simp only at hp
  subst hp
  rw [cell_of_row _ _ _ _ _ _ hg] at h
  match o, h with
  | 0, h => simpa using h.symm
  | 1, h => simpa using h.symm
  | o + 2, h => simp at h
theorem cell_kept2 {W : World} {g : Nat} {t : TypeId} {p : Addr} {v x y : Value} (hg : W.heap[g]? = some (.cells #[.slice none 0 0, .slice none 0 0] t (0, 0))) (h : W.cell? p = some v) (hv : v ≠ .slice none 0 0) : ((W.setCell ⟨g, 0, none⟩ x).setCell ⟨g, 1, none⟩ y).cell? p = some v := by
  have hne : p.block ≠ g := fun e => hv (cell_slice hg h e)
  rw [← h]
  refine World.cell?_of_block ?_
  rw [Below.heap_setCell _ ⟨g, 1, none⟩ _ _ hne, Below.heap_setCell _ ⟨g, 0, none⟩ _ _ hne]
theorem ls_other {W : World} {g : Nat} {x y : Value} {a : Option Addr} {n : Nat} {ls : List Lab} (h : Ls W a n ls) (hg : W.heap[g]? = some (.cells #[.slice none 0 0, .slice none 0 0] 55 (0, 0))) : Ls ((W.setCell ⟨g, 0, none⟩ x).setCell ⟨g, 1, none⟩ y) a n ls := by
  obtain ⟨h1, h2, h3, h4, h5⟩ := h
  exact ⟨h1, h2, h3, h4, fun z hz j hj => ⟨cell_kept2 hg (h5 z hz j hj).1 (by simp), cell_kept2 hg (h5 z hz j hj).2 (by simp)⟩⟩
theorem sm_other {W : World} {g : Nat} {x y : Value} {a : Option Addr} {n : Nat} {l : List Sam} (h : Sm W a n l) (hg : W.heap[g]? = some (.cells #[.slice none 0 0, .slice none 0 0] 55 (0, 0))) : Sm ((W.setCell ⟨g, 0, none⟩ x).setCell ⟨g, 1, none⟩ y) a n l := by
  obtain ⟨h1, h2, h3, h4, h5⟩ := h
  exact ⟨h1, h2, h3, h4, fun z hz j hj => ⟨cell_kept2 hg (h5 z hz j hj).1 (by simp), cell_kept2 hg (h5 z hz j hj).2 (by simp)⟩⟩
theorem set2_row {W : World} {g : Nat} {u v : Value} {t : TypeId} {fz : Nat × Nat} (h : W.heap[g]? = some (.cells #[u, v] t fz)) (x y : Value) : ((W.setCell ⟨g, 0, none⟩ x).setCell ⟨g, 1, none⟩ y).heap[g]? = some (.cells #[x, y] t fz) := block_setCell (block_setCell h x) y
theorem ser_results {w : World} {g : Nat} {x y : Value} (fn : Func) (hfn : fn.results = #[.cell 2 55, .tmp 3, .tmp 4]) (tmps : Array Value) (v v2 : Value) (hp : tmps[2]?.getD undef = .pointer (some ⟨g, 0, none⟩)) (hv : tmps[3]?.getD undef = v) (hv2 : tmps[4]?.getD undef = v2)
    (c0 : w.cell? ⟨g, 0, none⟩ = some x) (c1 : w.cell? ⟨g, 1, none⟩ = some y) : (results fn tmps).run Tryd.prog w = .ok (.tuple #[.agg #[x, y], v, v2]) w := by
  simp [results, hfn, hp, hv, hv2, go_sem, c0, c1]
set_option maxHeartbeats 2000000 in
set_option maxRecDepth 100000 in
theorem takeChunk_any (b off len cap : Nat) (zs : List Nat) (w : World) (h : Bs w (some ⟨b, off, none⟩) len zs) (hl : len ≤ 1000000000) (hcap : len ≤ cap) (hcm : cap ≤ maxLen) (hT : BitsTab w) :
    Calls Tryd.prog 41 #[.slice (some ⟨b, off, none⟩) len cap] w (TkPost w zs) := by
  unfold maxLen at hcm
  have hzl := hidn h.1
  by_cases h4 : len < 4
  · have g4 : (len : Int) < 4 := by omega
    have HNO : Hid (∀ ls sm n, ¬ TkOK zs ls sm n) := hidn (fun ls sm n hh => by have := hh.1; rw [hzl.out] at this; omega)
    go_enter Tryd.func41, Tryd.ntmps41
    go_wp2_with fail
    exact bodyPost_ret (v := .tuple #[.agg #[.slice none 0 0, .slice none 0 0], .int .i64 0, .bool false]) (ser_results _ rfl _ _ _ (by kernel_rfl) (by kernel_rfl) (by kernel_rfl) (cell_of_row _ _ _ _ _ _ (heap_alloc_new w _)) (cell_of_row _ _ _ _ _ _ (heap_alloc_new w _))) rfl ⟨(Below.refl _ w).alloc (Nat.le_refl _) _, .inr ⟨rfl, HNO.out⟩⟩
  · have g4 : ¬ (len : Int) < 4 := by omega
    have h4c : (4 : Int) ≤ (cap : Int) := by omega
    have h4l : (4 : Int) ≤ (len : Int) := by omega
    obtain ⟨w0, hw0⟩ : ∃ w0, w0 = w.alloc (.cells #[.slice none 0 0, .slice none 0 0] 55) := ⟨_, rfl⟩
    have b0 : Below w.heap.size w w0 := by rw [hw0]; exact (Below.refl _ w).alloc (Nat.le_refl _) _
    have q0 : w0.heap[w.heap.size]? = some (.cells #[.slice none 0 0, .slice none 0 0] 55 (0, 0)) := by rw [hw0]; exact heap_alloc_new w _
    have c00 : w0.cell? ⟨w.heap.size, 0, none⟩ = some (.slice none 0 0) := cell_of_row _ _ _ _ _ _ q0
    have c01 : w0.cell? ⟨w.heap.size, 1, none⟩ = some (.slice none 0 0) := cell_of_row _ _ _ _ _ _ q0
    have f00 : w0.frozen? ⟨w.heap.size, 0, none⟩ = false := by simp [World.frozen?, q0]
    have f01 : w0.frozen? ⟨w.heap.size, 1, none⟩ = false := by simp [World.frozen?, q0]
    have HW0 := hidn hw0
    have h0 := h.below b0
    have hP4 := bs_part h0 0 4 (by omega)
    rw [List.drop_zero, Nat.add_zero] at hP4
    have hz4 : ∀ x ∈ zs.take 4, x < 256 := hP4.2.2.1
    have hl4 : 4 = (zs.take 4).length := hP4.1.symm
    have HG := hidn (get_some b off 4 cap (zs.take 4) w0 hz4 hl4 (by decide) (by decide) (fun j hj => by have := hP4.2.2.2.2 _ rfl j hj; rw [ladd_none] at this; exact this))
    have hLlt : getB 0 (zs.take 4) < 4294967296 := by have := getB_lt (zs.take 4) hz4; rw [← hl4] at this; exact this
    obtain ⟨L, hL⟩ : ∃ L, L = getB 0 (zs.take 4) := ⟨_, rfl⟩
    rw [← hL] at HG hLlt
    have HL := hidn hL
    have hw4 : IntKind.u64.wrap ((len : Int) - 4) = (len : Int) - 4 := by rw [IntKind.wrap_u64]; omega
    clear hw0 hL hP4 hz4 hl4
    go_enter Tryd.func41, Tryd.ntmps41
    go_wp2_with fail
    rw [← HW0.out]
    refine HG.out.mono ?_
    rintro e w1 ⟨rfl, rfl⟩
    by_cases hbig : (len : Int) - 4 < (L : Int)
    · have HNO : Hid (∀ ls sm n, ¬ TkOK zs ls sm n) := hidn (fun ls sm n hh => by have := hh.2.1; rw [← HL.out, hzl.out] at this; omega)
      go_wp2_with fail
      have qz := set2_row q0 (.slice none 0 0) (.slice none 0 0)
      exact bodyPost_ret (v := .tuple #[.agg #[.slice none 0 0, .slice none 0 0], .int .i64 0, .bool false]) (ser_results _ rfl _ _ _ (by kernel_rfl) (by kernel_rfl) (by kernel_rfl) (cell_of_row _ _ _ _ _ _ qz) (cell_of_row _ _ _ _ _ _ qz)) rfl ⟨(b0.setCell (p := ⟨w.heap.size, 0, none⟩) (Nat.le_refl _) _).setCell (p := ⟨w.heap.size, 1, none⟩) (Nat.le_refl _) _, .inr ⟨rfl, HNO.out⟩⟩
    · have hle : L + 4 ≤ len := by omega
      obtain ⟨N, hN⟩ : ∃ N : Nat, N = 4 + L := ⟨_, rfl⟩
      have hwL : IntKind.i64.wrap (L : Int) = (L : Int) := by rw [IntKind.wrap_i64]; omega
      have hsum : 4 + (L : Int) = (N : Int) := by omega
      have n1 : (4 : Int) ≤ (N : Int) := by omega
      have n2 : (N : Int) ≤ (cap : Int) := by omega
      have n3 : 4 ≤ N := by omega
      have n4 : N ≤ cap := by omega
      have n5 : N - 4 = L := by omega
      have HN := hidn hN
      have HB4 : Hid (∀ A, A = some ⟨b, off + 4, none⟩ ∨ L = 0 → Bs w1 A L ((zs.drop 4).take L) ∨ A = none) := hidn (fun A hA => by
        rcases hA with rfl | h00
        · exact .inl (bs_part h0 4 L (by omega))
        · cases A with
          | none => exact .inr rfl
          | some x =>
            subst h00
            refine .inl ⟨by simp, Nat.zero_le _, (fun x hx => by simp at hx), (fun e => by cases e), fun x _ j hj => by omega⟩)
      have hT0 := hT.below b0
      clear hN
      by_cases hcap4 : cap = 4
      · subst hcap4
        obtain rfl : L = 0 := by omega
        obtain rfl : len = 4 := by omega
        obtain rfl : N = 4 := by omega
        have HNO : Hid (∀ ls sm n, ¬ TkOK zs ls sm n) := hidn (fun ls sm n hh => by
          obtain ⟨_, _, _, r, h1, _⟩ := hh
          rw [← HL.out, List.take_zero] at h1
          cases h1)
        go_wp2_with fail
        refine (dec_empty _ _ _).mono ?_
        rintro e w2 ⟨rfl, b2⟩
        have q2 := (b2.block _ (Array.getElem?_eq_some_iff.1 q0).1).trans q0
        have c20 : w2.cell? ⟨w.heap.size, 0, none⟩ = some (.slice none 0 0) := cell_of_row _ _ _ _ _ _ q2
        have c21 : w2.cell? ⟨w.heap.size, 1, none⟩ = some (.slice none 0 0) := cell_of_row _ _ _ _ _ _ q2
        have f20 : w2.frozen? ⟨w.heap.size, 0, none⟩ = false := by simp [World.frozen?, q2]
        have f21 : w2.frozen? ⟨w.heap.size, 1, none⟩ = false := by simp [World.frozen?, q2]
        have B2 := b0.trans (b2.mono b0.size)
        go_wp2_with fail
        have qz := set2_row q2 (.slice none 0 0) (.slice none 0 0)
        exact bodyPost_ret (v := .tuple #[.agg #[.slice none 0 0, .slice none 0 0], .int .i64 0, .bool false]) (ser_results _ rfl _ _ _ (by kernel_rfl) (by kernel_rfl) (by kernel_rfl) (cell_of_row _ _ _ _ _ _ qz) (cell_of_row _ _ _ _ _ _ qz)) rfl ⟨(B2.setCell (p := ⟨w.heap.size, 0, none⟩) (Nat.le_refl _) _).setCell (p := ⟨w.heap.size, 1, none⟩) (Nat.le_refl _) _, .inr ⟨rfl, HNO.out⟩⟩
      · have hc5 : ¬ (cap - 4 = 0) := by omega
        have HD := hidn (dec_any2 (some ⟨b, off + 4, none⟩) L (cap - 4) ((zs.drop 4).take L) w1 (bs_part h0 4 L (by omega)) (by omega) (by omega) (by unfold maxLen; omega))
        clear HB4
        go_wp2_with fail
        refine HD.out.mono ?_
        rintro e w2 ⟨b2, hcase⟩
        have q2 := (b2.block _ (Array.getElem?_eq_some_iff.1 q0).1).trans q0
        have c20 : w2.cell? ⟨w.heap.size, 0, none⟩ = some (.slice none 0 0) := cell_of_row _ _ _ _ _ _ q2
        have c21 : w2.cell? ⟨w.heap.size, 1, none⟩ = some (.slice none 0 0) := cell_of_row _ _ _ _ _ _ q2
        have f20 : w2.frozen? ⟨w.heap.size, 0, none⟩ = false := by simp [World.frozen?, q2]
        have f21 : w2.frozen? ⟨w.heap.size, 1, none⟩ = false := by simp [World.frozen?, q2]
        have B2 := b0.trans (b2.mono b0.size)
        have HHB := hidn hbig
        clear c00 c01 f00 f01 hbig
        rcases hcase with ⟨hd, rfl⟩ | ⟨ls, r, hd, hcn, rfl⟩ | ⟨ls, r, a', c', a2, c2, hd, hcn, rfl, hLs, hBr, hrc, hcm2, hlc⟩
        · have HNO : Hid (∀ ls sm n, ¬ TkOK zs ls sm n) := hidn (fun ls sm n hh => by
            obtain ⟨_, _, _, r, h1, _⟩ := hh
            rw [← HL.out, hd] at h1
            cases h1)
          go_wp2_with fail
          have qz := set2_row q2 (.slice none 0 0) (.slice none 0 0)
          exact bodyPost_ret (v := .tuple #[.agg #[.slice none 0 0, .slice none 0 0], .int .i64 0, .bool false]) (ser_results _ rfl _ _ _ (by kernel_rfl) (by kernel_rfl) (by kernel_rfl) (cell_of_row _ _ _ _ _ _ qz) (cell_of_row _ _ _ _ _ _ qz)) rfl ⟨(B2.setCell (p := ⟨w.heap.size, 0, none⟩) (Nat.le_refl _) _).setCell (p := ⟨w.heap.size, 1, none⟩) (Nat.le_refl _) _, .inr ⟨rfl, HNO.out⟩⟩
        · have HNO : Hid (∀ ls sm n, ¬ TkOK zs ls sm n) := hidn (fun ls' sm n hh => by
            obtain ⟨_, _, _, r', h1, h2, _⟩ := hh
            rw [← HL.out, hd] at h1
            simp only [Option.some.injEq, Prod.mk.injEq] at h1
            rw [← h1.1, hcn] at h2
            cases h2)
          go_wp2_with fail
          have qz := set2_row q2 (.slice none 0 0) (.slice none 0 0)
          exact bodyPost_ret (v := .tuple #[.agg #[.slice none 0 0, .slice none 0 0], .int .i64 0, .bool false]) (ser_results _ rfl _ _ _ (by kernel_rfl) (by kernel_rfl) (by kernel_rfl) (cell_of_row _ _ _ _ _ _ qz) (cell_of_row _ _ _ _ _ _ qz)) rfl ⟨(B2.setCell (p := ⟨w.heap.size, 0, none⟩) (Nat.le_refl _) _).setCell (p := ⟨w.heap.size, 1, none⟩) (Nat.le_refl _) _, .inr ⟨rfl, HNO.out⟩⟩
        · have hl8 := ((canOK_iff ls).1 hcn).2.1
          have hrl : r.length ≤ 1000000000 := by
            have h1 := decP_len hd
            rw [List.length_take] at h1
            omega
          obtain ⟨rl, hrle⟩ : ∃ rl, rl = r.length := ⟨_, rfl⟩
          obtain ⟨ln, hlne⟩ : ∃ ln, ln = ls.length := ⟨_, rfl⟩
          have HS := hidn (Cd.sdec_any a2 r.length c2 r w2 hBr hrl hrc hcm2 (hT0.below b2))
          have HLS := hidn hLs
          have HLC := hidn hlc
          have HD2 := hidn hd
          have HCN := hidn hcn
          rw [← hrle] at HS
          rw [← hrle, ← hlne]
          have HLN := hidn hlne
          clear hlne hrle hd hcn hLs hBr hrc hlc hrl hl8
          go_wp2_with fail
          refine HS.out.mono ?_
          rintro e w3 ⟨hcase, b3⟩
          have q3 := (b3.block _ (Array.getElem?_eq_some_iff.1 q2).1).trans q2
          have c30 : w3.cell? ⟨w.heap.size, 0, none⟩ = some (.slice none 0 0) := cell_of_row _ _ _ _ _ _ q3
          have c31 : w3.cell? ⟨w.heap.size, 1, none⟩ = some (.slice none 0 0) := cell_of_row _ _ _ _ _ _ q3
          have f30 : w3.frozen? ⟨w.heap.size, 0, none⟩ = false := by simp [World.frozen?, q3]
          have f31 : w3.frozen? ⟨w.heap.size, 1, none⟩ = false := by simp [World.frozen?, q3]
          have B3 := B2.trans (b3.mono B2.size)
          clear c20 c21 f20 f21
          rcases hcase with ⟨sm, v, rfl, hcs, hok, hpk, hown⟩ | ⟨rfl, hno⟩
          · obtain ⟨sa, sc, rfl, hSm, hsc, hscm, hsab⟩ := sm_of_own hown hok
            have HSAB := hidn hsab
            clear hsab
            obtain ⟨sl, hsl⟩ : ∃ sl, sl = sm.length := ⟨_, rfl⟩
            have HSM := hidn hSm
            have HSC := hidn hsc
            have HSL := hidn hsl
            rw [← hsl]
            have hslm : sl ≤ 65535 := by rw [hsl]; exact ((Cd.canS_iff sm).1 hcs).1
            clear hsl hSm hsc hown
            by_cases s0 : sl = 0
            · have HNO : Hid (∀ ls sm n, ¬ TkOK zs ls sm n) := hidn (fun ls' sm' n hh => by
                obtain ⟨_, _, _, r', h1, h2, h3, h4, h5, h6, _⟩ := hh
                rw [← HL.out, HD2.out] at h1
                simp only [Option.some.injEq, Prod.mk.injEq] at h1
                rw [← h1.2] at h3
                have := Cd.pack_inj hok h5 hcs h4 hpk h3
                rw [this, ← HSL.out, s0] at h6
                omega)
              subst s0
              go_wp2_with fail
              have qz := set2_row q3 (.slice none 0 0) (.slice none 0 0)
              exact bodyPost_ret (v := .tuple #[.agg #[.slice none 0 0, .slice none 0 0], .int .i64 0, .bool false]) (ser_results _ rfl _ _ _ (by kernel_rfl) (by kernel_rfl) (by kernel_rfl) (cell_of_row _ _ _ _ _ _ qz) (cell_of_row _ _ _ _ _ _ qz)) rfl ⟨(B3.setCell (p := ⟨w.heap.size, 0, none⟩) (Nat.le_refl _) _).setCell (p := ⟨w.heap.size, 1, none⟩) (Nat.le_refl _) _, .inr ⟨rfl, HNO.out⟩⟩
            · have s1 : ((sl : Int) == 0) = false := beq_eq_false_iff_ne.2 (by omega)
              by_cases s20 : 20 < sl
              · have s21 : (20 : Int) < (sl : Int) := by omega
                have HNO : Hid (∀ ls sm n, ¬ TkOK zs ls sm n) := hidn (fun ls' sm' n hh => by
                  obtain ⟨_, _, _, r', h1, h2, h3, h4, h5, h6, h7⟩ := hh
                  rw [← HL.out, HD2.out] at h1
                  simp only [Option.some.injEq, Prod.mk.injEq] at h1
                  rw [← h1.2] at h3
                  have := Cd.pack_inj hok h5 hcs h4 hpk h3
                  rw [this, ← HSL.out] at h7
                  omega)
                clear s0
                go_wp2_with fail
                have qz := set2_row q3 (.slice none 0 0) (.slice none 0 0)
                exact bodyPost_ret (v := .tuple #[.agg #[.slice none 0 0, .slice none 0 0], .int .i64 0, .bool false]) (ser_results _ rfl _ _ _ (by kernel_rfl) (by kernel_rfl) (by kernel_rfl) (cell_of_row _ _ _ _ _ _ qz) (cell_of_row _ _ _ _ _ _ qz)) rfl ⟨(B3.setCell (p := ⟨w.heap.size, 0, none⟩) (Nat.le_refl _) _).setCell (p := ⟨w.heap.size, 1, none⟩) (Nat.le_refl _) _, .inr ⟨rfl, HNO.out⟩⟩
              · have s21 : ¬ (20 : Int) < (sl : Int) := by omega
                have HOK : Hid (TkOK zs ls sm N) := hidn ⟨by rw [hzl.out]; omega, by rw [← HL.out, hzl.out]; omega, by rw [← HL.out]; exact HN.out, r, by rw [← HL.out]; exact HD2.out, HCN.out, hpk, hcs, hok, by rw [← HSL.out]; omega, by rw [← HSL.out]; omega⟩
                clear s0
                go_wp2_with fail
                have qz := set2_row q3 (.slice a' ln c') (.slice sa sl sc)
                have bz : Below w3.heap.size w3 w3 := Below.refl _ _
                refine bodyPost_ret (v := .tuple #[.agg #[.slice a' ln c', .slice sa sl sc], .int .i64 (N : Int), .bool true]) (ser_results _ rfl _ _ _ (by kernel_rfl) (by kernel_rfl) (by kernel_rfl) (cell_of_row _ _ _ _ _ _ qz) (cell_of_row _ _ _ _ _ _ qz)) rfl ⟨(B3.setCell (p := ⟨w.heap.size, 0, none⟩) (Nat.le_refl _) _).setCell (p := ⟨w.heap.size, 1, none⟩) (Nat.le_refl _) _, .inl ⟨⟨a', ln, c', ls, sa, sl, sc, sm⟩, N, rfl, HOK.out, ?_, fun k hk => Nat.le_trans B2.size (HSAB.out k hk)⟩⟩
                have h1 : Ls w3 a' ls.length ls := HLS.out.below b3
                have h8 := ((canOK_iff ls).1 HCN.out).2.1
                refine ⟨?_, by show ln ≤ _; rw [HLN.out]; omega, ?_, by show sl ≤ sc; rw [HSL.out]; exact HSC.out, hscm⟩
                · rw [← HLN.out] at h1
                  exact ls_other h1 q3
                · have h2 := HSM.out
                  rw [← HSL.out] at h2
                  exact sm_other h2 q3
          · have HNO : Hid (∀ ls sm n, ¬ TkOK zs ls sm n) := hidn (fun ls' sm' n hh => by
              obtain ⟨_, _, _, r', h1, h2, h3, h4, h5, _⟩ := hh
              rw [← HL.out, HD2.out] at h1
              simp only [Option.some.injEq, Prod.mk.injEq] at h1
              rw [← h1.2] at h3
              exact hno sm' h5 h4 h3)
            go_wp2_with fail
            have qz := set2_row q3 (.slice none 0 0) (.slice none 0 0)
            exact bodyPost_ret (v := .tuple #[.agg #[.slice none 0 0, .slice none 0 0], .int .i64 0, .bool false]) (ser_results _ rfl _ _ _ (by kernel_rfl) (by kernel_rfl) (by kernel_rfl) (cell_of_row _ _ _ _ _ _ qz) (cell_of_row _ _ _ _ _ _ qz)) rfl ⟨(B3.setCell (p := ⟨w.heap.size, 0, none⟩) (Nat.le_refl _) _).setCell (p := ⟨w.heap.size, 1, none⟩) (Nat.le_refl _) _, .inr ⟨rfl, HNO.out⟩⟩
end Go.Proofs.YtcjhkpcnhnnjbaaDoor
