/- labels.Decode: a contract at any bytes. -/
import Derived.Test.YtiffbbcgailmnaaGreatDoorMh
import Derived.Test.YtiffbbcgailmnaaGreatDoorClone
import Derived.Laws.MakeOwn
import Derived.Lib.SmallJoins
namespace Go.Proofs.YtiffbbcgailmnaaGreatDoor
open Go.RowKit Go.Joins
set_option linter.unusedVariables false

theorem labInfo : ∃ i0 z, Tryz.prog.info? 35 = some i0 ∧ i0.zero = some z ∧ i0.size = 2 ∧ i0.bytes = 32 := by
  have h : (Tryz.prog.info? 35).map (fun i => (i.zero.isSome, i.size, i.bytes)) = some (true, 2, 32) := by kernel_rfl
  cases hi : Tryz.prog.info? 35 with
  | none => rw [hi] at h; cases h
  | some i =>
    rw [hi] at h
    simp only [Option.map_some, Option.some.injEq, Prod.mk.injEq] at h
    obtain ⟨z, hz⟩ := Option.isSome_iff_exists.1 h.1
    exact ⟨i, z, rfl, hz, h.2.1, h.2.2⟩
theorem strB_size (l : List Nat) : (strB l).size = l.length := by rw [Lib.size_eq]; unfold strB; simp

/-- A block that holds labels, as far as they are there. -/
def LabBlk (w : World) (g n : Nat) (d : List Lab) : Prop :=
  ∃ C : Array Value, w.heap[g]? = some (.cells C 35 (0, 0)) ∧ C.size = n * 2 ∧ ∀ j, j < d.length → C[j * 2]? = some (.string (labD d j).1) ∧ C[j * 2 + 1]? = some (.string (labD d j).2)
theorem LabBlk.below {w w' : World} {g n : Nat} {d : List Lab} (h : LabBlk w g n d) (hb : Below w.heap.size w w') : LabBlk w' g n d := by
  obtain ⟨C, h1, h2⟩ := h
  exact ⟨C, by rw [hb.block g (Array.getElem?_eq_some_iff.1 h1).1]; exact h1, h2⟩
theorem labD_append_left (d : List Lab) (x : Lab) (j : Nat) (h : j < d.length) : labD (d ++ [x]) j = labD d j := by
  unfold labD; rw [List.getD_eq_getElem?_getD, List.getD_eq_getElem?_getD, List.getElem?_append_left h]
theorem labD_append_last (d : List Lab) (x : Lab) : labD (d ++ [x]) d.length = x := by
  unfold labD; rw [List.getD_eq_getElem?_getD]; simp
theorem LabBlk.put {w : World} {g n : Nat} {d : List Lab} {x : Lab} (h : LabBlk w g n d) (hk : d.length < n) :
    LabBlk ((w.setCell ⟨g, d.length * 2, none⟩ (.string x.1)).setCell ⟨g, d.length * 2 + 1, none⟩ (.string x.2)) g n (d ++ [x]) := by
  obtain ⟨C, h1, h2, h3⟩ := h
  refine ⟨_, block_setCell (block_setCell h1 _) _, by simp [h2], ?_⟩
  intro j hj
  rw [List.length_append] at hj
  simp only [List.length_cons, List.length_nil] at hj
  by_cases e : j = d.length
  · subst e
    rw [labD_append_last]
    simp only [Array.getElem?_setIfInBounds, Array.size_setIfInBounds, h2]
    refine ⟨?_, ?_⟩
    · rw [if_neg (by omega), if_pos trivial, if_pos (by omega)]
    · rw [if_pos trivial, if_pos (by omega)]
  · have hj' : j < d.length := by omega
    rw [labD_append_left d x j hj']
    obtain ⟨k1, k2⟩ := h3 j hj'
    simp only [Array.getElem?_setIfInBounds]
    refine ⟨?_, ?_⟩
    · rw [if_neg (by omega), if_neg (by omega)]; exact k1
    · rw [if_neg (by omega), if_neg (by omega)]; exact k2
theorem LabBlk.cells {w : World} {g n : Nat} {d : List Lab} (h : LabBlk w g n d) (hk : d.length < n) :
    (∃ o, w.cell? ⟨g, d.length * 2, none⟩ = some o) ∧ (∃ o, w.cell? ⟨g, d.length * 2 + 1, none⟩ = some o) ∧ w.frozen? ⟨g, d.length * 2, none⟩ = false ∧ w.frozen? ⟨g, d.length * 2 + 1, none⟩ = false := by
  obtain ⟨C, h1, h2, h3⟩ := h
  refine ⟨?_, ?_, unfrozen_of_block h1 _, unfrozen_of_block h1 _⟩
  · rw [cell_of_block h1]; exact ⟨_, Array.getElem?_eq_getElem (by omega)⟩
  · rw [cell_of_block h1]; exact ⟨_, Array.getElem?_eq_getElem (by omega)⟩
theorem LabBlk.ls {w : World} {g n : Nat} {d : List Lab} (h : LabBlk w g n d) (hn : d.length = n) (hm : n ≤ maxLen) (hs : ∀ i, (labD d i).1.size ≤ maxLen ∧ (labD d i).2.size ≤ maxLen) : Ls w (some ⟨g, 0, none⟩) n d := by
  obtain ⟨C, h1, h2, h3⟩ := h
  refine ⟨hn, hm, hs, (fun h => by cases h), ?_⟩
  intro x hx j hj
  cases hx
  rw [ladd_none, ladd_none, Nat.zero_add, Nat.zero_add, cell_of_block h1, cell_of_block h1]
  exact h3 j (by omega)
theorem sizes_append (d : List Lab) (x : Lab) (hd : ∀ i, (labD d i).1.size ≤ maxLen ∧ (labD d i).2.size ≤ maxLen) (hx : x.1.size ≤ maxLen ∧ x.2.size ≤ maxLen) : ∀ i, (labD (d ++ [x]) i).1.size ≤ maxLen ∧ (labD (d ++ [x]) i).2.size ≤ maxLen := by
  intro i
  by_cases h : i < d.length
  · rw [labD_append_left d x i h]; exact hd i
  · by_cases h2 : i = d.length
    · rw [h2, labD_append_last]; exact hx
    · unfold labD
      rw [List.getD_eq_getElem?_getD, List.getElem?_eq_none (by simp; omega)]
      exact ⟨by show ByteArray.empty.size ≤ _; decide, by show ByteArray.empty.size ≤ _; decide⟩

theorem mk_run {o : Oper} {a : Act} {w w' : World} {t : TypeId} {x : Operand} {vx v : Value} (ho : o.op = Op.makeSlice t x x) (hx : a.eval x = vx) (hr : (Instr.makeSlice t vx vx).run Tryz.prog w = .ok v w') : (execOp a.eval o).run Tryz.prog w = .ok (.value v) w' := by
  simp [execOp, ho, hx, hr, Result.andThen]

set_option maxHeartbeats 1000000 in
theorem dec_empty (a : Option Addr) (cap : Nat) (w : World) :
    Calls Tryz.prog 56 #[.slice a 0 cap] w fun e w' => e = .returned (.tuple #[.slice none 0 0, .slice none 0 0, .int .i64 3]) ∧ Below w.heap.size w w' := by
  go_enter Tryz.func56, Tryz.ntmps56
  go_wp2
  exact bodyPost_ret (v := .tuple #[.slice none 0 0, .slice none 0 0, .int .i64 3]) (by simp [results, Tryz.results56, go_sem]) rfl ⟨rfl, Below.refl _ _⟩

/-- What Decode answers. -/
def DecPost (zs : List Nat) (w : World) (e : Ending) (w' : World) : Prop :=
  Below w.heap.size w w' ∧
  ((decP zs = none ∧ e = .returned (.tuple #[.slice none 0 0, .slice none 0 0, .int .i64 3])) ∨
   (∃ ls r, decP zs = some (ls, r) ∧ canOK ls = false ∧ e = .returned (.tuple #[.slice none 0 0, .slice none 0 0, .int .i64 5])) ∨
   (∃ ls r a' c' a2 c2, decP zs = some (ls, r) ∧ canOK ls = true ∧ e = .returned (.tuple #[.slice a' ls.length c', .slice a2 r.length c2, .int .i64 0]) ∧ Ls w' a' ls.length ls ∧ Bs w' a2 r.length r))
def DecPost2 (zs : List Nat) (w : World) (e : Ending) (w' : World) : Prop :=
  Below w.heap.size w w' ∧
  ((decP zs = none ∧ e = .returned (.tuple #[.slice none 0 0, .slice none 0 0, .int .i64 3])) ∨
   (∃ ls r, decP zs = some (ls, r) ∧ canOK ls = false ∧ e = .returned (.tuple #[.slice none 0 0, .slice none 0 0, .int .i64 5])) ∨
   (∃ ls r a' c' a2 c2, decP zs = some (ls, r) ∧ canOK ls = true ∧ e = .returned (.tuple #[.slice a' ls.length c', .slice a2 r.length c2, .int .i64 0]) ∧ Ls w' a' ls.length ls ∧ Bs w' a2 r.length r ∧ r.length ≤ c2 ∧ c2 ≤ maxLen ∧ ls.length ≤ c'))
theorem DecPost2.weak {zs : List Nat} {w : World} {e : Ending} {w' : World} (h : DecPost2 zs w e w') : DecPost zs w e w' := by
  refine ⟨h.1, ?_⟩
  rcases h.2 with h2 | h2 | ⟨ls, r, a1, c1, a2, c2, h1, h2, h3, h4, h5, _⟩
  · exact .inl h2
  · exact .inr (.inl h2)
  · exact .inr (.inr ⟨ls, r, a1, c1, a2, c2, h1, h2, h3, h4, h5⟩)

set_option maxHeartbeats 8000000 in
set_option maxRecDepth 100000 in
theorem dec_some2 (b off len cap n : Nat) (t : List Nat) (w : World) (h : Bs w (some ⟨b, off, none⟩) len (n :: t)) (hr : len ≤ 140737488355328) (hcap : len ≤ cap) (hcm : cap ≤ maxLen) :
    Calls Tryz.prog 56 #[.slice (some ⟨b, off, none⟩) len cap] w (DecPost2 (n :: t) w) := by
  have hl := h.1
  simp at hl
  obtain ⟨b', off', hbo, hbw, hc⟩ := h.pos (by omega)
  cases hbo
  have c0 := hc 0 (by omega)
  simp at c0
  have hn := h.2.2.1 n (by simp)
  have g0 : ((len : Int) == 0) = false := beq_eq_false_iff_ne.2 (by omega)
  have g1 : (0 : Int) < (len : Int) := by omega
  have g2 : 0 < len := by omega
  have g3 : 1 ≤ len := by omega
  have g4 : (1 : Int) ≤ (len : Int) := by omega
  obtain ⟨aX, haX⟩ : ∃ aX, (if cap = 1 then some (⟨b, off, none⟩ : Addr) else some ⟨b, off + 1, none⟩) = aX := ⟨_, rfl⟩
  have HX : Hid (Bs w aX (len - 1) t) := hidn (by
    rw [← haX]
    split
    · have h0 : t = [] := List.length_eq_zero_iff.1 (by omega)
      subst h0
      simp at hl
      subst hl
      exact ⟨by simp, Nat.zero_le _, by simp, (fun _ => rfl), fun x hx j hj => by omega⟩
    · have := h.part (i := 1) (m := len - 1) (by omega)
      rw [List.drop_succ_cons, List.drop_zero, List.take_of_length_le (by omega)] at this
      exact this)
  obtain ⟨i0, z, hi, hz, hsz, hby⟩ := labInfo
  obtain ⟨Z, hZ⟩ : ∃ Z, Z = madeCells z.cells (((n : Nat) : Int).toNat * i0.size) := ⟨_, rfl⟩
  have hZs : Z.size = n * 2 := by rw [hZ, size_madeCells, hsz]; simp
  have hmk : ∀ W : World, (Instr.makeSlice 36 (.int .u8 (n : Int)) (.int .u8 (n : Int))).run Tryz.prog W = .ok (.slice (some ⟨W.heap.size, 0, none⟩) n n) (W.alloc (.cells Z 35)) := fun W => by
    have h := run_make (P := Tryz.prog) W 36 35 i0 z Tryz.underlying36 hi hz .u8 .u8 (n : Int) (n : Int) (by omega) (by omega) (by rw [hby]; omega) (by omega)
    rw [← hZ] at h
    simpa using h
  have HMK := hidn hmk
  have HST := hidn (decAt_start n t)
  have hlH := hidn hl
  have hm : len ≤ 2 ^ 63 - 1 := h.2.1
  have htlt : Hid (∀ y ∈ t, y < 256) := hidn (fun y hy => h.2.2.1 y (by simp [hy]))
  clear hZ hi hz hsz hby hmk hc h hl
  go_enter Tryz.func56, Tryz.ntmps56
  go_wp2
  have c0d : w.drew.cell? ⟨b, off, none⟩ = some (.int .u8 (n : Int)) := c0
  have hszd : w.drew.heap.size = w.heap.size := rfl
  have hbd : Below w.heap.size w w.drew := (Below.refl _ _).drew
  have HXd : Hid (Bs w.drew aX (len - 1) t) := hidn (HX.out.drew 1)
  refine wp_region_noPanic ?_
  refine wp_region_held_drew (S := fun w' => w'.cell? ⟨b, off, none⟩ = some (.int .u8 (n : Int))) (by kernel_rfl) c0d (fun hHeld => ?_)
  generalize hwd : w.drew = wd at *
  refine drawn_take (i := 0) (v := .slice (some ⟨b, off, none⟩) len cap) (some 17) rfl rfl (by kernel_rfl) (by kernel_rfl) (by kernel_rfl) (fun _ _ _ h => h) (Or.inl ⟨by kernel_rfl, fun wq hw => by go_simp⟩) hHeld ?_
  simp only [Act.put, List.setIfInBounds_toArray, List.set_cons_succ, List.set_cons_zero]
  refine drawn_take (i := 1) (v := .pointer (some ⟨b, off, none⟩)) (some 18) rfl rfl (by kernel_rfl) (by kernel_rfl) (by kernel_rfl) (fun _ _ _ h => h) (Or.inl ⟨by kernel_rfl, fun wq hw => by go_simp⟩) hHeld ?_
  simp only [Act.put, List.setIfInBounds_toArray, List.set_cons_succ, List.set_cons_zero]
  refine drawn_take (i := 2) (v := .int .u8 (n : Int)) (some 19) rfl rfl (by kernel_rfl) (by kernel_rfl) (by kernel_rfl) (fun _ _ _ h => h) (Or.inl ⟨by kernel_rfl, fun wq hw => by go_simp⟩) hHeld ?_
  simp only [Act.put, List.setIfInBounds_toArray, List.set_cons_succ, List.set_cons_zero]
  refine drawn_take (i := 4) (v := .slice (some ⟨b, off, none⟩) len cap) (some 21) rfl rfl (by kernel_rfl) (by kernel_rfl) (by kernel_rfl) (fun _ _ _ h => h) (Or.inl ⟨by kernel_rfl, fun wq hw => by go_simp⟩) hHeld ?_
  simp only [Act.put, List.setIfInBounds_toArray, List.set_cons_succ, List.set_cons_zero]
  refine drawn_take (i := 5) (v := .slice aX (len - 1) (cap - 1)) (some 22) rfl rfl (by kernel_rfl) (by kernel_rfl) (by kernel_rfl) (fun _ _ _ h => h) (Or.inl ⟨by kernel_rfl, fun wq hw => by go_simp⟩) hHeld ?_
  simp only [Act.put, List.setIfInBounds_toArray, List.set_cons_succ, List.set_cons_zero]
  refine wpAnyH_ready (rs := [3]) (by kernel_rfl) (by simp) ?_
  refine rdy_val (i := 3) rfl rfl (some 20) rfl (.slice (some ⟨wd.heap.size, 0, none⟩) n n) (wd.alloc (.cells Z 35)) (mk_run (x := .tmp 19) (t := 36) (vx := .int .u8 (n : Int)) (by kernel_rfl) (by kernel_rfl) (HMK.out wd)) (Lib.cell?_alloc_some _ hHeld) (fun hHeld => ?_) rdy_nil
  simp only [Act.put, List.setIfInBounds_toArray, List.set_cons_succ, List.set_cons_zero]
  refine drawn_take (i := 6) (v := .slice (some ⟨wd.heap.size, 0, none⟩) n n) (some 5) rfl rfl (by kernel_rfl) (by kernel_rfl) (by kernel_rfl) (fun _ _ _ h => h) (Or.inl ⟨by kernel_rfl, fun wq hw => by go_simp⟩) hHeld ?_
  simp only [Act.put, List.setIfInBounds_toArray, List.set_cons_succ, List.set_cons_zero]
  refine drawn_take (i := 7) (v := .slice aX (len - 1) (cap - 1)) (some 6) rfl rfl (by kernel_rfl) (by kernel_rfl) (by kernel_rfl) (fun _ _ _ h => h) (Or.inl ⟨by kernel_rfl, fun wq hw => by go_simp⟩) hHeld ?_
  simp only [Act.put, List.setIfInBounds_toArray, List.set_cons_succ, List.set_cons_zero]
  refine wpAnyH_done (by kernel_rfl) ?_ _
  refine NoPanic.normal ?_
  clear hHeld
  have hblk : LabBlk (wd.alloc (.cells Z 35)) wd.heap.size n [] := ⟨Z, alloc_at wd _, hZs, fun j hj => by simp at hj⟩
  have hbA : Below w.heap.size w (wd.alloc (.cells Z 35)) := hbd.alloc (by omega) _
  have hBA := HX
  generalize hwA : wd.alloc (.cells Z 35) = wA at *
  generalize hg : wd.heap.size = g at *
  have hgw : w.heap.size ≤ g := by omega
  have HNIL := hidn (show ∀ i, (labD ([] : List Lab) i).1.size ≤ maxLen ∧ (labD ([] : List Lab) i).2.size ≤ maxLen from fun i => by unfold labD; simp)
  clear HMK HXd HX hwA hwd c0d c0 hZs haX hszd hg
  go_wp2
  go_loopw [6, 25] (fun r i wr => ∃ (k : Nat) (d : List Lab) (ar : Option Addr) (lr cr : Nat) (rs : List Nat), k ≤ n ∧ i = .int .i64 k ∧ r = .slice ar lr cr ∧ Hid (Bs w ar lr rs) ∧ lr ≤ cr ∧ cr ≤ maxLen ∧ lr ≤ 140737488355328 ∧ Hid (d.length = k) ∧ LabBlk wr g n d ∧ Hid (∀ i, (labD d i).1.size ≤ maxLen ∧ (labD d i).2.size ≤ maxLen) ∧ Below w.heap.size w wr ∧ g < wr.heap.size ∧ Hid (decP (n :: t) = decAt d (n - k) rs)) (fun _ i wr => n - (intOf i).toNat)
  case atStart =>
    obtain ⟨C, hC, _⟩ := hblk
    exact ⟨0, [], aX, len - 1, cap - 1, t, Nat.zero_le _, rfl, rfl, hBA, by omega, by omega, by omega, rfl, ⟨C, hC, by assumption⟩, HNIL, hbA, (Array.getElem?_eq_some_iff.1 hC).1, HST.out⟩
  case round =>
    obtain ⟨k, d, ar, lr, cr, rs, hk, rfl, rfl, hB, hlc, hcr, hlr, hdl, hblk, hds, hbl, hgs, hst⟩ := hrel
    have hBr := hB.out.below hbl
    by_cases hlt : k < n
    · obtain ⟨m, hm⟩ : ∃ m, n - k = m + 1 := ⟨n - k - 1, by omega⟩
      have HM := hidn hm
      have hm1 : Hid (n - (k + 1) = m) := hidn (by omega)
      clear hm
      cases hp : pieceN rs with
      | none =>
        have HC : Hid (decP (n :: t) = none) := hidn (by rw [hst.out, HM.out]; exact decAt_none1 hp)
        go_wp2_with fail
        refine (take_none ar lr cr rs _ hBr hp).mono ?_
        rintro e w1 ⟨rfl, b1⟩
        have B1 := hbl.trans (b1.mono hbl.size)
        clear hp hst
        go_wp2_with fail
        refine (take_none none 0 0 [] _ (Bs.nil _) rfl).mono ?_
        rintro e w2 ⟨rfl, b2⟩
        have B2 := B1.trans (b2.mono B1.size)
        go_wp2
        exact bodyPost_ret (v := .tuple #[.slice none 0 0, .slice none 0 0, .int .i64 3]) (by simp [results, Tryz.results56, go_sem]) rfl ⟨B2, .inl ⟨HC.out, rfl⟩⟩
      | some p =>
        obtain ⟨x, q1⟩ := p
        have hrl := hB.out.1
        have hx := pieceN_lt hp hB.out.2.2.1
        have HXL : Hid (x.length ≤ lr ∧ q1.length ≤ lr) := hidn (by rw [← hrl]; exact ⟨hx.2.2.1, hx.2.2.2⟩)
        clear hx hrl
        go_wp2_with fail
        refine (take_some ar lr cr rs x q1 _ hBr hlc hcr hp).mono ?_
        rintro e w1 ⟨a1, k1, rfl, hW1, hk1, hkm1, hne1, b1⟩
        have B1 := hbl.trans (b1.mono hbl.size)
        have hB1 := hidn (hW1 w hB.out)
        have hB1r := hB1.out.below B1
        have HP := hidn hp
        clear hp hW1 hBr
        cases hp2 : pieceN q1 with
        | none =>
          have HC : Hid (decP (n :: t) = none) := hidn (by rw [hst.out, HM.out]; exact decAt_none2 HP.out hp2)
          go_wp2_with fail
          refine (take_none a1 _ k1 q1 _ hB1r hp2).mono ?_
          rintro e w2 ⟨rfl, b2⟩
          have B2 := B1.trans (b2.mono B1.size)
          clear hp2 hst
          go_wp2
          exact bodyPost_ret (v := .tuple #[.slice none 0 0, .slice none 0 0, .int .i64 3]) (by simp [results, Tryz.results56, go_sem]) rfl ⟨B2, .inl ⟨HC.out, rfl⟩⟩
        | some p2 =>
          obtain ⟨v, q2⟩ := p2
          have hx := pieceN_lt hp2 hB1.out.2.2.1
          have HVL : Hid (v.length ≤ lr ∧ q2.length ≤ lr) := hidn ⟨by have := HXL.out; omega, by have := HXL.out; omega⟩
          have HC : Hid (decP (n :: t) = decAt (d ++ [(strB x, strB v)]) m q2) := hidn (by rw [hst.out, HM.out]; exact decAt_step HP.out hp2)
          clear hx
          go_wp2_with fail
          refine (take_some a1 _ k1 q1 v q2 _ hB1r hk1 hkm1 hp2).mono ?_
          rintro e w2 ⟨a2, k2, rfl, hW2, hk2, hkm2, hne2, b2⟩
          have B2 := B1.trans (b2.mono B1.size)
          have hB2 := hidn (hW2 w hB1.out)
          have hblk2 := (hblk.below b1).below b2
          have hgs2 : g < w2.heap.size := by have := b1.size; have := b2.size; omega
          clear hp2 hst hW2 hB1r hblk
          obtain ⟨⟨o0, ho0⟩, ⟨o1, ho1⟩, f0, f1⟩ := hblk2.cells (by rw [hdl.out]; exact hlt)
          have hput := hblk2.put (x := (strB x, strB v)) (by rw [hdl.out]; exact hlt)
          have hsd := sizes_append d (strB x, strB v) hds.out ⟨by show (strB x).size ≤ _; rw [strB_size]; have := HXL.out; unfold maxLen at *; omega, by show (strB v).size ≤ _; rw [strB_size]; have := HVL.out; unfold maxLen at *; omega⟩
          rw [hdl.out] at ho0 ho1 f0 f1 hput
          have HPUT := hidn hput
          have HSD := hidn hsd
          have HDL : Hid ((d ++ [(strB x, strB v)]).length = k + 1) := hidn (by rw [List.length_append, hdl.out]; rfl)
          have B3 : Below w.heap.size w ((w2.setCell ⟨g, k * 2, none⟩ (.string (strB x))).setCell ⟨g, k * 2 + 1, none⟩ (.string (strB v))) := (B2.setCell (p := ⟨g, k * 2, none⟩) hgw _).setCell (p := ⟨g, k * 2 + 1, none⟩) hgw _
          clear hput hsd hblk2
          have hgs3 : g < ((w2.setCell ⟨g, k * 2, none⟩ (.string (strB x))).setCell ⟨g, k * 2 + 1, none⟩ (.string (strB v))).heap.size := by
            obtain ⟨C, hC, _⟩ := HPUT.out
            exact (Array.getElem?_eq_some_iff.1 hC).1
          go_wp2
          exact ⟨⟨k + 1, _, a2, _, k2, q2, by omega, by go_num, rfl, hB2, hk2, hkm2, by have := HVL.out; omega, HDL, HPUT.out, HSD, B3, hgs3, by rw [hm1.out]; exact HC.out⟩, by simp [intOf]; omega⟩
    · obtain rfl : k = n := by omega
      have HC : Hid (decP (k :: t) = some (d, rs)) := hidn (by rw [hst.out, Nat.sub_self, decAt_end])
      have hLs := hblk.ls hdl.out (by unfold maxLen; omega) hds.out
      clear hst
      go_wp2_with fail
      refine (can_any _ k k d _ hLs (by omega)).mono ?_
      rintro e w1 ⟨rfl, b1⟩
      have B1 := hbl.trans (b1.mono hbl.size)
      cases hcan : canOK d with
      | false =>
        go_wp2
        exact bodyPost_ret (v := .tuple #[.slice none 0 0, .slice none 0 0, .int .i64 5]) (by simp [results, Tryz.results56, go_sem]) rfl ⟨B1, .inr (.inl ⟨d, rs, HC.out, hcan, rfl⟩)⟩
      | true =>
        have hB1 := hB.out.below B1
        go_wp2_with fail
        refine (clone_any ar lr cr rs _ hB1 hlr).mono ?_
        rintro e w2 ⟨vc, rfl, hown, b2⟩
        have B2 := B1.trans (b2.mono B1.size)
        obtain ⟨ac, cc, rfl, hBc⟩ := bs_of_own hown hB.out.2.2.1
        have HCC : Hid (lr ≤ cc ∧ cc ≤ maxLen) := hidn (by
          rcases hown.2 with ⟨h1, h2⟩ | ⟨g1, c1, cur1, h1, _, _, h3, h4, _⟩
          · cases h1; exact ⟨by omega, by decide⟩
          · cases h1; exact ⟨h3, h4⟩)
        have hL2 := (hLs.below b1).below b2
        have HL2 : Hid (Ls w2 (some ⟨g, 0, none⟩) d.length d) := hidn (by rw [hdl.out]; exact hL2)
        have HBc : Hid (Bs w2 ac rs.length rs) := hidn (by rw [hB.out.1]; exact hBc)
        have HRL := hidn hB.out.1
        clear hown hBc hL2 hLs hB1
        go_wp2
        exact bodyPost_ret (v := .tuple #[.slice (some ⟨g, 0, none⟩) k k, .slice ac lr cc, .int .i64 0]) (by simp [results, Tryz.results56, go_sem]) rfl ⟨B2, .inr (.inr ⟨d, rs, _, _, _, _, HC.out, hcan, by rw [hdl.out, HRL.out], HL2.out, HBc.out, by rw [HRL.out]; exact HCC.out.1, HCC.out.2, by rw [hdl.out]; exact Nat.le_refl _⟩)⟩

theorem dec_any2 (a : Option Addr) (len cap : Nat) (zs : List Nat) (w : World) (h : Bs w a len zs) (hr : len ≤ 140737488355328) (hcap : len ≤ cap) (hcm : cap ≤ maxLen) :
    Calls Tryz.prog 56 #[.slice a len cap] w (DecPost2 zs w) := by
  cases zs with
  | nil =>
    have hl := h.1
    simp at hl
    subst hl
    exact (dec_empty a cap w).mono fun e w' hh => ⟨hh.2, .inl ⟨rfl, hh.1⟩⟩
  | cons n t =>
    have hl := h.1
    simp at hl
    obtain ⟨b, off, rfl, _, _⟩ := h.pos (by omega)
    exact dec_some2 b off len cap n t w h hr hcap hcm
theorem dec_some (b off len cap n : Nat) (t : List Nat) (w : World) (h : Bs w (some ⟨b, off, none⟩) len (n :: t)) (hr : len ≤ 140737488355328) (hcap : len ≤ cap) (hcm : cap ≤ maxLen) :
    Calls Tryz.prog 56 #[.slice (some ⟨b, off, none⟩) len cap] w (DecPost (n :: t) w) := (dec_some2 b off len cap n t w h hr hcap hcm).mono fun _ _ h => h.weak
theorem dec_any (a : Option Addr) (len cap : Nat) (zs : List Nat) (w : World) (h : Bs w a len zs) (hr : len ≤ 140737488355328) (hcap : len ≤ cap) (hcm : cap ≤ maxLen) :
    Calls Tryz.prog 56 #[.slice a len cap] w (DecPost zs w) := (dec_any2 a len cap zs w h hr hcap hcm).mono fun _ _ h => h.weak
end Go.Proofs.YtiffbbcgailmnaaGreatDoor
