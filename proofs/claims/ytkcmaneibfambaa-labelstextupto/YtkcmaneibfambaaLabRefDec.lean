/- dryrotref07.Decode: a contract at any bytes. -/
import Derived.Test.YtkcmaneibfambaaLabDec
import Derived.Test.YtkcmaneibfambaaLabRefCan
import Derived.Laws.AppendOwnNone
namespace Go.Proofs.Ytkcmaneibfambaa
open Go.RowKit Go.Joins
set_option linter.unusedVariables false

/-- A row of labels that the call owns. -/
def labV (ls : List Lab) : List Value := ls.flatMap fun x => [.string x.1, .string x.2]
theorem labV_len (ls : List Lab) : (labV ls).length = ls.length * 2 := by
  induction ls with
  | nil => rfl
  | cons x t ih => simp only [labV, List.flatMap_cons, List.length_append, List.length_cons, List.length_nil] at *; omega
theorem labV_snoc (ls : List Lab) (x : Lab) : labV (ls ++ [x]) = labV ls ++ [.string x.1, .string x.2] := by simp [labV]
theorem labV_at (ls : List Lab) : ∀ j, j < ls.length → (labV ls)[j * 2]? = some (.string (labD ls j).1) ∧ (labV ls)[j * 2 + 1]? = some (.string (labD ls j).2) := by
  induction ls with
  | nil => intro j h; simp at h
  | cons x t ih =>
    intro j h
    cases j with
    | zero => exact ⟨rfl, rfl⟩
    | succ j =>
      have h1 := ih j (by simp at h; omega)
      have e : labD (x :: t) (j + 1) = labD t j := rfl
      rw [e]
      have e1 : (j + 1) * 2 = j * 2 + 2 := by omega
      rw [e1]
      simp only [labV, List.flatMap_cons, List.cons_append, List.nil_append] at h1 ⊢
      exact ⟨by simpa using h1.1, by rw [show j * 2 + 2 + 1 = (j * 2 + 1) + 1 + 1 from by omega]; simpa using h1.2⟩
theorem ls_of_own {w : World} {base n : Nat} {v : Value} {ls : List Lab} (h : w.ownsRow base 39 2 v n (labV ls)) (hs : ∀ i, (labD ls i).1.size ≤ maxLen ∧ (labD ls i).2.size ≤ maxLen) :
    ∃ a cap, v = .slice a n cap ∧ Ls w a n ls := by
  have h' := h
  obtain ⟨hl, h1⟩ := h
  have hn : ls.length = n := by rw [labV_len] at hl; omega
  rcases h1 with ⟨rfl, rfl⟩ | ⟨g, cap, cur, rfl, hg, hh, hnc, hcm, hcs, htk⟩
  · obtain rfl : ls = [] := List.length_eq_zero_iff.1 hn
    exact ⟨none, 0, rfl, Ls.nil w⟩
  · refine ⟨_, cap, rfl, hn, by omega, hs, (fun h => by simp at h), fun x hx j hj => ?_⟩
    cases hx
    rw [ladd_none, ladd_none, Nat.zero_add, Nat.zero_add, h'.cellAt _ (by omega), h'.cellAt _ (by omega)]
    exact labV_at ls j (by omega)

theorem own_kept {w w' : World} {base e size n : Nat} {v : Value} {xs : List Value} (h : w.ownsRow base e size v n xs) (hb : Below w.heap.size w w') : w'.ownsRow base e size v n xs := by
  obtain ⟨hl, h1⟩ := h
  refine ⟨hl, ?_⟩
  rcases h1 with h1 | ⟨g, cap, cur, hv, hg, hh, r⟩
  · exact .inl h1
  · exact .inr ⟨g, cap, cur, hv, hg, by rw [hb.block g (Array.getElem?_eq_some_iff.1 hh).1]; exact hh, r⟩
theorem own_lt {w : World} {base e size n : Nat} {v : Value} {xs : List Value} (h : w.ownsRow base e size v n xs) : ∀ j, v.ownBlock = some j → base ≤ j := by
  intro j hj
  rcases h.2 with ⟨rfl, _⟩ | ⟨g, cap, cur, rfl, hg, _⟩
  · simp [Value.ownBlock] at hj
  · simp [Value.ownBlock] at hj; omega

set_option maxHeartbeats 2000000 in
theorem piece_none (a : Option Addr) (len cap : Nat) (zs : List Nat) (w : World) (h : Bs w a len zs) (hp : pieceN zs = none) :
    Calls Try.prog 51 #[.slice a len cap] w fun e w' => e = .returned (.tuple #[.string ⟨#[]⟩, .slice none 0 0, .bool false]) ∧ Below w.heap.size w w' := by
  have hl := h.1
  have hm := h.2.1
  unfold maxLen at hm
  cases zs with
  | nil =>
    simp at hl
    subst hl
    go_enter Try.func51, Try.ntmps51
    go_wp2
    exact bodyPost_ret (v := .tuple #[.string ⟨#[]⟩, .slice none 0 0, .bool false]) (by simp [results, Try.results51, go_sem]) rfl ⟨rfl, Below.refl _ _⟩
  | cons n t =>
    have hlt : t.length < n := by
      simp only [pieceN] at hp
      by_cases hl : t.length < n
      · exact hl
      · rw [if_neg hl] at hp; cases hp
    simp at hl
    obtain ⟨b, off, rfl, hbw, hc⟩ := h.pos (by omega)
    have c0 := hc 0 (by omega)
    simp at c0
    have hn := h.2.2.1 n (by simp)
    have g0 : ((len : Int) == 0) = false := beq_eq_false_iff_ne.2 (by omega)
    have g1 : (len : Int) - 1 < (n : Int) := by omega
    have g2 : (0 : Int) < (len : Int) := by omega
    have g3 : 0 < len := by omega
    have hlH := hidn hl
    clear hl hc h
    go_enter Try.func51, Try.ntmps51
    go_wp2
    exact bodyPost_ret (v := .tuple #[.string ⟨#[]⟩, .slice none 0 0, .bool false]) (by simp [results, Try.results51, go_sem]) rfl ⟨rfl, Below.refl _ _⟩

set_option maxHeartbeats 2000000 in
set_option maxRecDepth 100000 in
theorem piece_some (a : Option Addr) (len cap : Nat) (zs x r : List Nat) (w : World) (h : Bs w a len zs) (hcap : len ≤ cap) (hcm : cap ≤ maxLen) (hp : pieceN zs = some (x, r)) :
    Calls Try.prog 51 #[.slice a len cap] w fun e w' => ∃ a' cap', e = .returned (.tuple #[.string (strB x), .slice a' r.length cap', .bool true]) ∧ (∀ W, Bs W a len zs → Bs W a' r.length r) ∧ r.length ≤ cap' ∧ cap' ≤ maxLen ∧ a' ≠ none ∧ Below w.heap.size w w' := by
  have hl := h.1
  have hm := h.2.1
  unfold maxLen at hm
  cases zs with
  | nil => cases hp
  | cons n t =>
    have hlt : ¬ t.length < n := by
      intro hl
      simp only [pieceN] at hp
      rw [if_pos hl] at hp; cases hp
    simp only [pieceN] at hp
    rw [if_neg hlt] at hp
    simp only [Option.some.injEq, Prod.mk.injEq] at hp
    obtain ⟨rfl, rfl⟩ := hp
    simp at hl
    obtain ⟨b, off, rfl, hbw, hc⟩ := h.pos (by omega)
    have c0 := hc 0 (by omega)
    simp at c0
    have hn := h.2.2.1 n (by simp)
    have g0 : ((len : Int) == 0) = false := beq_eq_false_iff_ne.2 (by omega)
    have g1 : ¬ (len : Int) - 1 < (n : Int) := by omega
    have g2 : (0 : Int) < (len : Int) := by omega
    have g3 : 0 < len := by omega
    obtain ⟨aX, haX⟩ : ∃ aX, (if cap = 1 then some (⟨b, off, none⟩ : Addr) else some ⟨b, off + 1, none⟩) = aX := ⟨_, rfl⟩
    have HX : Hid (Bs w aX n (t.take n)) := hidn (by
      rw [← haX]
      split
      · obtain rfl : n = 0 := by omega
        exact ⟨by simp, Nat.zero_le _, by simp, (fun _ => rfl), fun x hx j hj => by omega⟩
      · exact h.part (i := 1) (m := n) (by omega))
    have hrl : (t.drop n).length = len - (1 + n) := by simp; omega
    obtain ⟨e, he⟩ : ∃ e, e = 1 + n := ⟨_, rfl⟩
    obtain ⟨aR, haR⟩ : ∃ aR, (if cap = e then some (⟨b, off, none⟩ : Addr) else some ⟨b, off + e, none⟩) = aR := ⟨_, rfl⟩
    have HR : Hid (∀ W, Bs W (some ⟨b, off, none⟩) len (n :: t) → Bs W aR (t.drop n).length (t.drop n)) := hidn (by
      intro W h
      rw [← haR]
      split
      · have h0 : (t.drop n) = [] := List.drop_of_length_le (by omega)
        rw [h0]
        exact ⟨by simp, Nat.zero_le _, by simp, (fun _ => rfl), fun x hx j hj => by simp at hj⟩
      · have := h.part (i := 1 + n) (m := len - (1 + n)) (by omega)
        rw [hrl, he]
        rw [show 1 + n = n + 1 from by omega, List.drop_succ_cons, List.take_of_length_le (by simp; omega)] at this
        rw [show 1 + n = n + 1 from by omega]; exact this)
    have HE := hidn he
    have hne : (1 : Int) + (n : Int) = (e : Int) := by omega
    have he1 : 1 ≤ e := by omega
    have he6 : (1 : Int) ≤ (e : Int) := by omega
    have hx1 : (if cap = 1 then some (⟨b, off, none⟩ : Addr) else some ⟨b, off + 1, none⟩) = aX := haX
    have he2 : e ≤ len := by omega
    have he3 : e ≤ cap := by omega
    have he4 : (e : Int) - 1 = (n : Int) := by omega
    have he5 : e - 1 = n := by omega
    have hlH := hidn hl
    have HRL := hidn hrl
    clear hl hc h he hrl hlt
    go_enter Try.func51, Try.ntmps51
    go_wp2
    have hwe : IntKind.i64.wrap (e : Int) = (e : Int) := by rw [IntKind.wrap_i64]; omega
    refine wp_region_noPanic ?_
    refine wp_region_held_drew (S := fun w' => Bs w' aX n (t.take n)) (by kernel_rfl) (HX.out.drew 1) (fun hHeld => ?_)
    refine drawn_take (i := 0) (v := .slice (some ⟨b, off, none⟩) len cap) (some 23) rfl rfl (by kernel_rfl) (by kernel_rfl) (by kernel_rfl) (fun _ _ _ h => h) (Or.inl ⟨by kernel_rfl, fun wq hw => by go_simp⟩) hHeld ?_
    simp only [Act.put, List.setIfInBounds_toArray, List.set_cons_succ, List.set_cons_zero]
    refine drawn_take (i := 1) (v := .int .i64 (n : Int)) (some 24) rfl rfl (by kernel_rfl) (by kernel_rfl) (by kernel_rfl) (fun _ _ _ h => h) (Or.inl ⟨by kernel_rfl, fun wq hw => by go_simp⟩) hHeld ?_
    simp only [Act.put, List.setIfInBounds_toArray, List.set_cons_succ, List.set_cons_zero]
    refine drawn_take (i := 2) (v := .int .i64 (e : Int)) (some 25) rfl rfl (by kernel_rfl) (by kernel_rfl) (by kernel_rfl) (fun _ _ _ h => h) (Or.inl ⟨by kernel_rfl, fun wq hw => by go_simp⟩) hHeld ?_
    simp only [Act.put, List.setIfInBounds_toArray, List.set_cons_succ, List.set_cons_zero]
    refine drawn_take (i := 3) (v := .slice aX n (cap - 1)) (some 26) rfl rfl (by kernel_rfl) (by kernel_rfl) (by kernel_rfl) (fun _ _ _ h => h) (Or.inl ⟨by kernel_rfl, fun wq hw => by go_simp⟩) hHeld ?_
    simp only [Act.put, List.setIfInBounds_toArray, List.set_cons_succ, List.set_cons_zero]
    refine drawn_take (i := 4) (v := .string (strB (t.take n))) (some 27) rfl rfl (by kernel_rfl) (by kernel_rfl) (by kernel_rfl) (fun _ _ _ h => h) (Or.inl ⟨by kernel_rfl, fun wq hw => conv_run (s := 41) (d := 9) (x := .tmp 26) (vx := .slice aX n (cap - 1)) (by kernel_rfl) (by kernel_rfl) hw.str⟩) hHeld ?_
    simp only [Act.put, List.setIfInBounds_toArray, List.set_cons_succ, List.set_cons_zero]
    refine drawn_take (i := 5) (v := .slice (some ⟨b, off, none⟩) len cap) (some 28) rfl rfl (by kernel_rfl) (by kernel_rfl) (by kernel_rfl) (fun _ _ _ h => h) (Or.inl ⟨by kernel_rfl, fun wq hw => by go_simp⟩) hHeld ?_
    simp only [Act.put, List.setIfInBounds_toArray, List.set_cons_succ, List.set_cons_zero]
    refine drawn_take (i := 6) (v := .int .i64 (n : Int)) (some 29) rfl rfl (by kernel_rfl) (by kernel_rfl) (by kernel_rfl) (fun _ _ _ h => h) (Or.inl ⟨by kernel_rfl, fun wq hw => by go_simp⟩) hHeld ?_
    simp only [Act.put, List.setIfInBounds_toArray, List.set_cons_succ, List.set_cons_zero]
    refine drawn_take (i := 7) (v := .int .i64 (e : Int)) (some 30) rfl rfl (by kernel_rfl) (by kernel_rfl) (by kernel_rfl) (fun _ _ _ h => h) (Or.inl ⟨by kernel_rfl, fun wq hw => by go_simp⟩) hHeld ?_
    simp only [Act.put, List.setIfInBounds_toArray, List.set_cons_succ, List.set_cons_zero]
    refine drawn_take (i := 8) (v := .slice aR (len - e) (cap - e)) (some 31) rfl rfl (by kernel_rfl) (by kernel_rfl) (by kernel_rfl) (fun _ _ _ h => h) (Or.inl ⟨by kernel_rfl, fun wq hw => by go_simp⟩) hHeld ?_
    simp only [Act.put, List.setIfInBounds_toArray, List.set_cons_succ, List.set_cons_zero]
    refine drawn_take (i := 9) (v := .string (strB (t.take n))) (some 2) rfl rfl (by kernel_rfl) (by kernel_rfl) (by kernel_rfl) (fun _ _ _ h => h) (Or.inl ⟨by kernel_rfl, fun wq hw => by go_simp⟩) hHeld ?_
    simp only [Act.put, List.setIfInBounds_toArray, List.set_cons_succ, List.set_cons_zero]
    refine drawn_take (i := 10) (v := .slice aR (len - e) (cap - e)) (some 3) rfl rfl (by kernel_rfl) (by kernel_rfl) (by kernel_rfl) (fun _ _ _ h => h) (Or.inl ⟨by kernel_rfl, fun wq hw => by go_simp⟩) hHeld ?_
    simp only [Act.put, List.setIfInBounds_toArray, List.set_cons_succ, List.set_cons_zero]
    refine drawn_take (i := 11) (v := .bool true) (some 4) rfl rfl (by kernel_rfl) (by kernel_rfl) (by kernel_rfl) (fun _ _ _ h => h) (Or.inl ⟨by kernel_rfl, fun wq hw => by go_simp⟩) hHeld ?_
    simp only [Act.put, List.setIfInBounds_toArray, List.set_cons_succ, List.set_cons_zero]
    refine wpAnyH_done (by kernel_rfl) ?_ _
    refine NoPanic.normal ?_
    clear hHeld
    have HF := HR
    have HNE : Hid (aR ≠ none) := hidn (by rw [← haR]; split <;> simp)
    have hle : (t.drop n).length = len - e := by rw [HRL.out, HE.out]
    have HLE := hidn hle
    have hmc : (t.drop n).length ≤ cap - e := by omega
    have hmm : cap - e ≤ maxLen := by omega
    clear hle
    go_wp2
    exact bodyPost_ret (v := .tuple #[.string (strB (t.take n)), .slice aR (len - e) (cap - e), .bool true]) (by simp [results, Try.results51, go_sem]) rfl ⟨_, _, by rw [HLE.out], HF.out, hmc, hmm, HNE.out, (Below.refl _ _).drew⟩

set_option maxHeartbeats 1000000 in
theorem rdec_empty (a : Option Addr) (cap : Nat) (w : World) :
    Calls Try.prog 33 #[.slice a 0 cap] w fun e w' => e = .returned (.tuple #[.slice none 0 0, .slice none 0 0, .int .i64 3]) ∧ Below w.heap.size w w' := by
  go_enter Try.func33, Try.ntmps33
  go_wp2
  exact bodyPost_ret (v := .tuple #[.slice none 0 0, .slice none 0 0, .int .i64 3]) (by simp [results, Try.results33, go_sem]) rfl ⟨rfl, Below.refl _ _⟩

theorem labZero : ∃ i0 z, Try.prog.info? 39 = some i0 ∧ i0.zero = some z ∧ i0.size = 2 ∧ i0.bytes = 32 ∧ z.cells.size = 2 := by
  have h : (Try.prog.info? 39).map (fun i => (i.zero.map (fun z => z.cells.size), i.size, i.bytes)) = some (some 2, 2, 32) := by kernel_rfl
  cases hi : Try.prog.info? 39 with
  | none => rw [hi] at h; cases h
  | some i =>
    rw [hi] at h
    simp only [Option.map_some, Option.some.injEq, Prod.mk.injEq] at h
    obtain ⟨z, hz, hzc⟩ := Option.map_eq_some_iff.1 h.1
    exact ⟨i, z, rfl, hz, h.2.1, h.2.2, hzc⟩

set_option maxHeartbeats 8000000 in
set_option maxRecDepth 100000 in
theorem rdec_some (b off len cap n : Nat) (t : List Nat) (w : World) (h : Bs w (some ⟨b, off, none⟩) len (n :: t)) (hr : len ≤ 140737488355328) (hcap : len ≤ cap) (hcm : cap ≤ maxLen) :
    Calls Try.prog 33 #[.slice (some ⟨b, off, none⟩) len cap] w (DecPost (n :: t) w) := by
  have hl := h.1
  simp at hl
  obtain ⟨b', off', hbo, hbw, hc⟩ := h.pos (by omega)
  cases hbo
  have c0 := hc 0 (by omega)
  simp at c0
  have hn := h.2.2.1 n (by simp)
  have g0 : ((len : Int) == 0) = false := beq_eq_false_iff_ne.2 (by omega)
  have g1 : (0 : Int) < (len : Int) := by omega
  have g2 : 0 < len := by omega
  have g3 : 1 ≤ len := by omega
  have g4 : (1 : Int) ≤ (len : Int) := by omega
  obtain ⟨aX, haX⟩ : ∃ aX, (if cap = 1 then some (⟨b, off, none⟩ : Addr) else some ⟨b, off + 1, none⟩) = aX := ⟨_, rfl⟩
  have HX : Hid (Bs w aX (len - 1) t) := hidn (by
    rw [← haX]
    split
    · have h0 : t = [] := List.length_eq_zero_iff.1 (by omega)
      subst h0
      simp at hl
      subst hl
      exact ⟨by simp, Nat.zero_le _, by simp, (fun _ => rfl), fun x hx j hj => by omega⟩
    · have := h.part (i := 1) (m := len - 1) (by omega)
      rw [List.drop_succ_cons, List.drop_zero, List.take_of_length_le (by omega)] at this
      exact this)
  obtain ⟨i0, z, hi, hz, hsz, hby, hzc⟩ := labZero
  obtain ⟨j0, hj, hy0, hy1, hy2⟩ := info_parts bInfo
  have HST := hidn (decAt_start n t)
  have hlH := hidn hl
  have hm : len ≤ 2 ^ 63 - 1 := h.2.1
  have HNIL := hidn (show ∀ i, (labD ([] : List Lab) i).1.size ≤ maxLen ∧ (labD ([] : List Lab) i).2.size ≤ maxLen from fun i => by unfold labD; simp)
  clear hc h hl
  go_enter Try.func33, Try.ntmps33
  go_wp2
  go_loopw [0, 6, 23] (fun r o i wr => ∃ (k : Nat) (d : List Lab) (ov : Value) (ar : Option Addr) (lr cr : Nat) (rs : List Nat), k ≤ n ∧ i = .int .i64 k ∧ r = .slice ar lr cr ∧ o = ov ∧ Hid (ar ≠ none) ∧ Hid (Bs w ar lr rs) ∧ lr ≤ cr ∧ cr ≤ maxLen ∧ lr ≤ 140737488355328 ∧ Hid (d.length = k) ∧ wr.ownsRow w.heap.size 39 2 ov k (labV d) ∧ Hid (∀ i, (labD d i).1.size ≤ maxLen ∧ (labD d i).2.size ≤ maxLen) ∧ Below w.heap.size w wr ∧ Hid (decP (n :: t) = decAt d (n - k) rs)) (fun _ _ i wr => n - (intOf i).toNat)
  case atStart =>
    exact ⟨0, [], _, aX, len - 1, cap - 1, t, Nat.zero_le _, rfl, rfl, rfl, hidn (by rw [← haX]; split <;> simp), HX, by omega, by omega, by omega, rfl, World.ownsRow_nil _ _ _ _, HNIL, Below.refl _ _, HST.out⟩
  case round =>
    obtain ⟨k, d, ov, ar, lr, cr, rs, hk, rfl, rfl, rfl, hnn, hB, hlc, hcr, hlr, hdl, hown, hds, hbl, hst⟩ := hrel
    have hBr := hB.out.below hbl
    have hsw : w.heap.size ≤ wr.heap.size := hbl.size
    by_cases hlt : k < n
    · obtain ⟨m, hm⟩ : ∃ m, n - k = m + 1 := ⟨n - k - 1, by omega⟩
      have HM := hidn hm
      have hm1 : Hid (n - (k + 1) = m) := hidn (by omega)
      clear hm
      cases hp : pieceN rs with
      | none =>
        have HC : Hid (decP (n :: t) = none) := hidn (by rw [hst.out, HM.out]; exact decAt_none1 hp)
        go_wp2_with fail
        refine (piece_none ar lr cr rs _ hBr hp).mono ?_
        rintro e w1 ⟨rfl, b1⟩
        have B1 := hbl.trans (b1.mono hbl.size)
        clear hp hst
        go_wp2_with fail
        refine (piece_none none 0 0 [] _ (Bs.nil _) rfl).mono ?_
        rintro e w2 ⟨rfl, b2⟩
        have B2 := B1.trans (b2.mono B1.size)
        go_wp2
        exact bodyPost_ret (v := .tuple #[.slice none 0 0, .slice none 0 0, .int .i64 3]) (by simp [results, Try.results33, go_sem]) rfl ⟨B2, .inl ⟨HC.out, rfl⟩⟩
      | some p =>
        obtain ⟨x, q1⟩ := p
        have hrl := hB.out.1
        have hx := pieceN_lt hp hB.out.2.2.1
        have HXL : Hid (x.length ≤ lr ∧ q1.length ≤ lr) := hidn (by rw [← hrl]; exact ⟨hx.2.2.1, hx.2.2.2⟩)
        clear hx hrl
        go_wp2_with fail
        refine (piece_some ar lr cr rs x q1 _ hBr hlc hcr hp).mono ?_
        rintro e w1 ⟨a1, k1, rfl, hW1, hk1, hkm1, hne1, b1⟩
        have B1 := hbl.trans (b1.mono hbl.size)
        have hB1 := hidn (hW1 w hB.out)
        have hB1r := hB1.out.below B1
        have HP := hidn hp
        clear hp hW1 hBr
        cases hp2 : pieceN q1 with
        | none =>
          have HC : Hid (decP (n :: t) = none) := hidn (by rw [hst.out, HM.out]; exact decAt_none2 HP.out hp2)
          go_wp2_with fail
          refine (piece_none a1 _ k1 q1 _ hB1r hp2).mono ?_
          rintro e w2 ⟨rfl, b2⟩
          have B2 := B1.trans (b2.mono B1.size)
          clear hp2 hst
          go_wp2
          exact bodyPost_ret (v := .tuple #[.slice none 0 0, .slice none 0 0, .int .i64 3]) (by simp [results, Try.results33, go_sem]) rfl ⟨B2, .inl ⟨HC.out, rfl⟩⟩
        | some p2 =>
          obtain ⟨v, q2⟩ := p2
          have hx := pieceN_lt hp2 hB1.out.2.2.1
          have HVL : Hid (v.length ≤ lr ∧ q2.length ≤ lr) := hidn ⟨by have := HXL.out; omega, by have := HXL.out; omega⟩
          have HC : Hid (decP (n :: t) = decAt (d ++ [(strB x, strB v)]) m q2) := hidn (by rw [hst.out, HM.out]; exact decAt_step HP.out hp2)
          clear hx
          go_wp2_with fail
          refine (piece_some a1 _ k1 q1 v q2 _ hB1r hk1 hkm1 hp2).mono ?_
          rintro e w2 ⟨a2, k2, rfl, hW2, hk2, hkm2, hne2, b2⟩
          have B2 := B1.trans (b2.mono B1.size)
          have hB2 := hidn (hW2 w hB1.out)
          have hown2 : w2.ownsRow w.heap.size 39 2 _ k (labV d) := own_kept (own_kept hown b1) b2
          have hsd := sizes_append d (strB x, strB v) hds.out ⟨by show (strB x).size ≤ _; rw [strB_size]; have := HXL.out; unfold maxLen at *; omega, by show (strB v).size ≤ _; rw [strB_size]; have := HVL.out; unfold maxLen at *; omega⟩
          have HSD := hidn hsd
          have HDL : Hid ((d ++ [(strB x, strB v)]).length = k + 1) := hidn (by rw [List.length_append, hdl.out]; rfl)
          have hs2 : w.heap.size ≤ w2.heap.size := B2.size
          clear hp2 hst hW2 hB1r hown hsd
          go_wp2_with (at_builtin; refine wpList_append_own _ rfl _ _ 22 rfl w.heap.size 39 i0 z 2 32 Try.underlying22 hi hz hsz hby hzc (by decide) _ k (labV d) rfl (own_kept hown2 ((Below.refl _ _).alloc (Nat.le_refl _) _)) ⟨w2.heap.size, 0, none⟩ 1 1 [.string (strB x), .string (strB v)] rfl rfl ?c1 ?c2 ?c3 ?c4 ?c5 ?_)
          case c1 =>
            intro j u hj
            match j, hj with
            | 0, hj => simp at hj; subst hj; simp [Addr.add]
            | 1, hj => simp at hj; subst hj; simp [Addr.add]
          case c2 =>
            intro u hu
            simp at hu
            rcases hu with rfl | rfl <;> rfl
          case c3 => unfold maxLen; omega
          case c4 => omega
          case c5 => simp; omega
          intro v' w3 hown3 hgrow3 _
          have B3 : Below w.heap.size w w3 := (B2.alloc hs2 _).grown hgrow3 (by simp; omega) (fun j hj => own_lt hown2 j hj)
          have HO : Hid (w3.ownsRow w.heap.size 39 2 v' (k + 1) (labV (d ++ [(strB x, strB v)]))) := hidn (by rw [labV_snoc]; exact hown3)
          clear hown2 hown3 hgrow3
          go_wp2
          exact ⟨⟨k + 1, _, _, a2, _, k2, q2, by omega, by go_num, rfl, rfl, hidn hne2, hB2, hk2, hkm2, by have := HVL.out; omega, HDL, HO.out, HSD, B3, by rw [hm1.out]; exact HC.out⟩, by simp [intOf]; omega⟩
    · obtain rfl : k = n := by omega
      have HC : Hid (decP (k :: t) = some (d, rs)) := hidn (by rw [hst.out, Nat.sub_self, decAt_end])
      obtain ⟨al, cl, hvl, hLs⟩ := ls_of_own hown hds.out
      subst hvl
      clear hst hown
      go_wp2_with fail
      refine (refCan_any al k cl d _ hLs (by omega)).mono ?_
      rintro e w1 ⟨rfl, b1⟩
      have B1 := hbl.trans (b1.mono hbl.size)
      cases hcan : canOK d with
      | false =>
        go_wp2
        exact bodyPost_ret (v := .tuple #[.slice none 0 0, .slice none 0 0, .int .i64 5]) (by simp [results, Try.results33, go_sem]) rfl ⟨B1, .inr (.inl ⟨d, rs, HC.out, hcan, rfl⟩)⟩
      | true =>
        have hB1 := hB.out.below B1
        have hL1 := hLs.below b1
        have hlrn := hB1.1
        have hemp := World.ownsRow_lit (base := w1.heap.size) (e := 5) (size := 1) w1 #[] 0 (Nat.le_refl _) (Nat.zero_le _) rfl
        have HL1 := hidn hL1
        have HRL := hidn hB.out.1
        have hvl := fun (w2 : World) (b2 : Below w1.heap.size w1 w2) => hL1.below b2
        have HV := hidn hvl
        have hfin : Hid (∀ (w2 : World) (v2 : Value), w2.ownsRow w1.heap.size 5 1 v2 lr (vb rs) → Below w1.heap.size w1 w2 → DecPost (k :: t) w (.returned (.tuple #[.slice al k cl, v2, .int .i64 0])) w2) := hidn (by
          intro w2 v2 ho b2
          obtain ⟨ac, cc, rfl, hBc⟩ := bs_of_own ho hB.out.2.2.1
          refine ⟨B1.trans (b2.mono B1.size), .inr (.inr ⟨d, rs, al, cl, ac, cc, HC.out, hcan, by rw [hdl.out, HRL.out], ?_, ?_⟩)⟩
          · rw [hdl.out]; exact hL1.below b2
          · rw [HRL.out]; exact hBc)
        clear hL1 hvl HV HL1
        cases ar with
        | none => exact absurd rfl hnn.out
        | some xa =>
          have hcx := hB1.2.2.2.2 xa rfl
          go_wp2_with (at_builtin; refine wpList_append_own _ rfl _ _ 41 rfl w1.heap.size 5 j0 (.int .u8 0) 1 1 Try.underlying41 hj hy0 hy1 hy2 rfl (by decide) _ 0 [] rfl hemp xa lr cr (vb rs) rfl (by rw [length_vb, HRL.out]; omega) ?d1 ?d2 (by unfold maxLen; omega) (by omega) (by simp) ?_)
          case d1 =>
            intro j u hju
            have hj' : j < rs.length := by
              have := (List.getElem?_eq_some_iff.1 hju).1; simpa [vb] using this
            rw [vb_getD rs j hj'] at hju
            cases hju
            exact Lib.cell?_alloc_some _ (hcx j (by have := HRL.out; omega))
          case d2 => exact one_vb rs
          intro v2 w2 ho hg _
          have ho' : Hid (w2.ownsRow w1.heap.size 5 1 v2 lr (vb rs)) := hidn (by simpa using ho)
          have b2 : Below w1.heap.size w1 w2 := ((Below.refl _ _).alloc (Nat.le_refl _) _).grown hg (by simp) (fun j hj => by simp [Value.ownBlock] at hj; omega)
          clear ho hg hemp
          go_wp2
          exact bodyPost_ret (by simp [results, Try.results33, go_sem]) rfl (hfin.out _ _ ho'.out b2)
theorem rdec_any (a : Option Addr) (len cap : Nat) (zs : List Nat) (w : World) (h : Bs w a len zs) (hr : len ≤ 140737488355328) (hcap : len ≤ cap) (hcm : cap ≤ maxLen) :
    Calls Try.prog 33 #[.slice a len cap] w (DecPost zs w) := by
  cases zs with
  | nil =>
    have hl := h.1
    simp at hl
    subst hl
    exact (rdec_empty a cap w).mono fun e w' hh => ⟨hh.2, .inl ⟨rfl, hh.1⟩⟩
  | cons n t =>
    have hl := h.1
    simp at hl
    obtain ⟨b, off, rfl, _, _⟩ := h.pos (by omega)
    exact rdec_some b off len cap n t w h hr hcap hcm
end Go.Proofs.Ytkcmaneibfambaa
