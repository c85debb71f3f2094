/- The reader's method samples. -/
import Derived.Test.YtfgfkifdokeefaaGreatDoorCodDMath
import Derived.Test.YtfgfkifdokeefaaGreatDoorCodSam
import Derived.WalkMore
namespace Go.Proofs.YtfgfkifdokeefaaGreatDoor.Cd
open Go.RowKit Go.Joins
set_option linter.unusedVariables false
set_option linter.unusedSimpArgs false

theorem RI.belowB {w w' : World} {r B : Nat} {S : Option Addr × Nat} {zs : List Nat} {q : Nat} {bad : Bool} (h : RI w r S zs q bad) (hr : r < B) (hS : ∀ x, S.1 = some x → 0 < zs.length → x.block < B) (hb : Below B w w') : RI w' r S zs q bad := by
  obtain ⟨h1, h2, h3, h4, h5⟩ := h
  refine ⟨(hb.block r hr).trans h1, ?_, h3, h4, h5⟩
  obtain ⟨g1, g2, g3, g4, g5⟩ := h2
  refine ⟨g1, g2, g3, g4, fun x hx j hj => ?_⟩
  have hb' : (x.add j).block = x.block := by unfold Addr.add; split <;> rfl
  rw [hb.cell (p := x.add j) (by rw [hb']; exact hS x hx (by omega))]
  exact g5 x hx j hj

theorem Kr.thenBelow {r : Nat} {a b c : World} (h : Kr r a b) (hb : Below a.heap.size b c) : Kr r a c :=
  ⟨hb.os.trans h.1, hb.tape.trans h.2.1, hb.output.trans h.2.2.1, Nat.le_trans h.2.2.2.1 hb.size, fun i hi hn => (hb.block i hi).trans (h.2.2.2.2 i hi hn)⟩

theorem own_kr {w w' : World} {r base e size n : Nat} {v : Value} {xs : List Value} (h : w.ownsRow base e size v n xs) (hr : r < base) (hk : Kr r w w') : w'.ownsRow base e size v n xs := by
  obtain ⟨hl, h1⟩ := h
  refine ⟨hl, ?_⟩
  rcases h1 with h1 | ⟨g, cap, cur, hv, hg, hh, q⟩
  · exact .inl h1
  · exact .inr ⟨g, cap, cur, hv, hg, (hk.2.2.2.2 g (Array.getElem?_eq_some_iff.1 hh).1 (by omega)).trans hh, q⟩

theorem tab_kr {w w' : World} {r : Nat} (h : BitsTab w) (hr : 2 ≠ r) (hk : Kr r w w') : BitsTab w' := by
  intro k hk4
  obtain ⟨h1, h2, h3⟩ := h k hk4
  have hlt := block_lt_of_cell h1
  have e := hk.2.2.2.2 2 hlt hr
  have hc : ∀ o, w'.cell? ⟨2, o, none⟩ = w.cell? ⟨2, o, none⟩ := by
    intro o
    unfold World.cell?
    simp only [e]
  exact ⟨(hc _).trans h1, (hc _).trans h2, (hc _).trans h3⟩

theorem rd_turned {o : Oper} {a : Act} {w : World} {ts : Array TypeId} {x0 : Nat} {v0 : Value} (ho : o.op = Op.call { callee := Callee.value (Operand.func 234), args := #[.tmp x0], argTypes := ts }) (hx0 : a.eval (.tmp x0) = v0) : (execOp a.eval o).run Tryz.prog w = .ok (.enter 234 #[v0]) w := by
  simp [go_sem, execOp, ho, resolve, invoke]
  simpa [Act.eval] using hx0

/-- What stands when so many samples are read. -/
def SInv (w wr : World) (r n : Nat) (S : Option Addr × Nat) (zs : List Nat) (l : List Sam) (lv : Value) : Prop :=
  wr.ownsRow (w.heap.size + 1) 81 2 lv l.length (vsm l) ∧ SamsOK l ∧ riseS l ∧ RI wr r S zs (bodyTo l l.length).length false ∧ Kr r w wr ∧ w.heap.size < wr.heap.size ∧
    wr.heap[w.heap.size]? = some (.cells #[.int .i64 (aheadS l l.length).t, .int .u64 ((aheadS l l.length).v : Int)] 81 (0, 0)) ∧ Uniq zs (8 * zs.length) l ∧ At zs (8 * zs.length) 0 (bodyTo l l.length) ∧ l.length ≤ n

/-- What samples answers. -/
def SPost (w w' : World) (r n : Nat) (S : Option Addr × Nat) (zs : List Nat) (v : Value) : Prop :=
  ∃ (l : List Sam) (q : Nat) (bad : Bool), w'.ownsRow (w.heap.size + 1) 81 2 v l.length (vsm l) ∧ SamsOK l ∧ riseS l ∧ RI w' r S zs q bad ∧ Kr r w w' ∧ Uniq zs (8 * zs.length) l ∧ At zs (8 * zs.length) 0 (bodyTo l l.length) ∧
    ((l.length = n ∧ bad = false ∧ q = (bodyTo l l.length).length) ∨ (l.length < n ∧ ∀ m, SamsOK m → riseS m → m.length = n → ¬ At zs (8 * zs.length) 0 (bodyTo m n)))

theorem aheadS_ok {l : List Sam} (h : SamsOK l) (k : Nat) : SamOK (aheadS l k) := by
  cases k with
  | zero => exact samOK_zero
  | succ k => exact h k

theorem pstepS_rng (l : List Sam) (k : Nat) : -9223372036854775808 ≤ pstepS l k ∧ pstepS l k ≤ 9223372036854775807 := by
  cases k with
  | zero => show -9223372036854775808 ≤ (0 : Int) ∧ (0 : Int) ≤ 9223372036854775807; decide
  | succ k =>
    cases k with
    | zero => show -9223372036854775808 ≤ (0 : Int) ∧ (0 : Int) ≤ 9223372036854775807; decide
    | succ k => exact wrap64_rng _

theorem RI.cell3 {w : World} {r : Nat} {S : Option Addr × Nat} {zs : List Nat} {q : Nat} {bad : Bool} (h : RI w r S zs q bad) : w.cell? ⟨r, 3, none⟩ = some (.bool bad) := cell_of_row _ _ _ _ _ _ h.1

theorem sams_snoc {l : List Sam} {s : Sam} (h : SamsOK l) (hs : SamOK s) : SamsOK (l ++ [s]) := by
  intro i
  by_cases hi : i < l.length
  · rw [samD_app_lt hi]; exact h i
  · by_cases he : i = l.length
    · rw [he, samD_app_at]; exact hs
    · have : samD (l ++ [s]) i = ⟨0, 0⟩ := by
        unfold samD
        rw [List.getD_eq_getElem?_getD, List.getElem?_eq_none (by rw [List.length_append, List.length_singleton]; omega)]
        rfl
      rw [this]; exact samOK_zero

theorem rise_snoc {l : List Sam} {s : Sam} (h : riseS l) (hs : l.length ≠ 0 → (aheadS l l.length).t < s.t) : riseS (l ++ [s]) := by
  intro k hk
  rw [List.length_append, List.length_singleton] at hk
  by_cases hl : k + 1 < l.length
  · rw [samD_app_lt (by omega), samD_app_lt hl]; exact h k hl
  · have he : k + 1 = l.length := by omega
    rw [samD_app_lt (by omega), he, samD_app_at]
    have := hs (by omega)
    rw [← he] at this
    exact this

theorem pstep_snoc_zero (s : Sam) : pstepS ([] ++ [s]) 1 = 0 := rfl

theorem pstep_snoc {l : List Sam} {s : Sam} (h : l.length ≠ 0) : pstepS (l ++ [s]) (l.length + 1) = wrap64 (s.t - (aheadS l l.length).t) := by
  obtain ⟨k, hk⟩ : ∃ k, l.length = k + 1 := ⟨l.length - 1, by omega⟩
  show stepS (l ++ [s]) l.length = _
  rw [hk]
  show wrap64 ((samD (l ++ [s]) (k + 1)).t - (samD (l ++ [s]) k).t) = wrap64 (s.t - (samD l k).t)
  have e1 : samD (l ++ [s]) (k + 1) = s := by rw [← hk]; exact samD_app_at l s
  rw [e1, samD_app_lt (by omega)]

/-- The round's end: a sample more. -/
theorem sinv_next {w w3 : World} {r n : Nat} {S : Option Addr × Nat} {zs : List Nat} {l : List Sam} {s : Sam} {lv : Value} (hown : w3.ownsRow (w.heap.size + 1) 81 2 lv (l.length + 1) (vsm l ++ [.int .i64 s.t, .int .u64 (s.v : Int)])) (hl : SamsOK l) (hs : SamOK s) (hr : riseS l) (hrs : l.length ≠ 0 → (aheadS l l.length).t < s.t)
    (hri : RI w3 r S zs ((bodyTo l l.length).length + (oneOf (decide (l.length = 0)) (aheadS l l.length) (pstepS l l.length) s).length) false) (hk : Kr r w w3) (hsz : w.heap.size < w3.heap.size) (hah : w3.heap[w.heap.size]? = some (.cells #[.int .i64 s.t, .int .u64 (s.v : Int)] 81 (0, 0)))
    (hU : Uniq zs (8 * zs.length) l) (hAt : At zs (8 * zs.length) 0 (bodyTo l l.length)) (h1 : At zs (8 * zs.length) (bodyTo l l.length).length (oneOf (decide (l.length = 0)) (aheadS l l.length) (pstepS l l.length) s))
    (hu : ∀ s', SamOK s' → At zs (8 * zs.length) (bodyTo l l.length).length (oneOf (decide (l.length = 0)) (aheadS l l.length) (pstepS l l.length) s') → s' = s) (hn : l.length < n) : SInv w w3 r n S zs (l ++ [s]) lv := by
  have e : (l ++ [s]).length = l.length + 1 := by simp
  have eb := body_app l s
  refine ⟨?_, sams_snoc hl hs, rise_snoc hr hrs, ?_, hk, hsz, ?_, uniq_snoc hU hu, ?_, by rw [e]; omega⟩
  · rw [e, vsm_app]; exact hown
  · rw [e, eb, List.length_append]; exact hri
  · rw [e]
    have : aheadS (l ++ [s]) (l.length + 1) = s := samD_app_at l s
    rw [this]; exact hah
  · rw [e, eb]
    exact at_app.2 ⟨hAt, by rw [Nat.zero_add]; exact h1⟩

set_option maxHeartbeats 4000000 in
set_option maxRecDepth 100000 in
theorem samples_any (r n : Nat) {S : Option Addr × Nat} (zs : List Nat) (w : World) (h : RI w r S zs 0 false) (hr : r < w.heap.size) (hS : ∀ x, S.1 = some x → 0 < zs.length → x.block < w.heap.size) (hT : BitsTab w) (hTr : 2 ≠ r) (hn : n ≤ 65535) :
    Calls Tryz.prog 195 #[.pointer (some ⟨r, 0, none⟩), .int .i64 (n : Int)] w fun e w' => ∃ (v : Value), e = .returned v ∧ SPost w w' r n S zs v := by
  obtain ⟨i0, hi, hz0, hz1, hz2⟩ := info_parts Tryz.infoSam
  have H0 : Hid (SInv w (w.alloc (.cells #[.int .i64 0, .int .u64 0] 81)) r n S zs [] (.slice none 0 0)) := hidn ⟨World.ownsRow_nil _ _ _ _, fun i => samOK_zero, fun k hk => by simp at hk, h.below ((Below.refl _ _).alloc (Nat.le_refl _) _), Kr.of_below ((Below.refl _ _).alloc (Nat.le_refl _) _), by simp, heap_alloc_new w _, uniq_nil _ _, ⟨by simp [bodyTo], fun i hi => by simp [bodyTo] at hi⟩, Nat.zero_le _⟩
  go_enter Tryz.func195, Tryz.ntmps195
  go_wp2_with fail
  go_step3
  go_wp2_with fail
  go_step3
  go_wp2_with fail
  go_loopw [5, 7, 11] (fun lv sv iv wr => ∃ (l : List Sam), sv = .int .i64 (pstepS l l.length) ∧ iv = .int .i64 ((l.length : Nat) : Int) ∧ SInv w wr r n S zs l lv) (fun _ _ iv _ => n - (intOf iv).toNat)
  case atStart => exact ⟨[], rfl, rfl, H0.out⟩
  case round =>
    obtain ⟨l, rfl, rfl, hinv⟩ := hrel
    obtain ⟨hown, hso, hri, hRI, hKr, hsz, hah, hU, hAt, hle⟩ := hinv
    obtain ⟨k, hk⟩ : ∃ k, k = l.length := ⟨_, rfl⟩
    obtain ⟨ps, hps⟩ : ∃ ps, ps = pstepS l l.length := ⟨_, rfl⟩
    obtain ⟨p, hp⟩ : ∃ p, p = (aheadS l l.length).t := ⟨_, rfl⟩
    obtain ⟨av, hav⟩ : ∃ av, av = (aheadS l l.length).v := ⟨_, rfl⟩
    obtain ⟨q0, hq0⟩ : ∃ q0, q0 = (bodyTo l l.length).length := ⟨_, rfl⟩
    rw [← hps, ← hk]
    rw [← hp, ← hav] at hah
    rw [← hq0] at hRI
    rw [← hk] at hown hle
    have HK := hidn hk
    have HPS := hidn hps
    have HP := hidn hp
    have HAV := hidn hav
    have HQ0 := hidn hq0
    have HSO := hidn hso
    have HRI := hidn hri
    have HU := hidn hU
    have HAT := hidn hAt
    have hpok : SamOK ⟨p, av⟩ := by rw [hp, hav]; exact aheadS_ok hso _
    have hpsr := pstepS_rng l l.length
    rw [← hps] at hpsr
    obtain ⟨B, hB⟩ : ∃ B, B = w.heap.size := ⟨_, rfl⟩
    rw [← hB] at hown hsz hah
    have HB := hidn hB
    have hrB : r < B := by omega
    have hSB : ∀ x, S.1 = some x → 0 < zs.length → x.block < B := by rw [hB]; exact hS
    clear hk hps hp hav hq0 hso hri hU hAt hB
    by_cases hlt : k < n
    · have hkn : (k : Int) < (n : Int) := by omega
      have bal : Below wr.heap.size wr (wr.alloc (.cells #[.int .i64 0, .int .u64 0] 81)) := (Below.refl _ _).alloc (Nat.le_refl _) _
      have hRI1 := hRI.below bal
      have hown1 := hown.alloc (.cells #[.int .i64 0, .int .u64 0] 81)
      have hs1 := heap_alloc_new wr (.cells #[.int .i64 0, .int .u64 0] 81)
      have hah1 := (Below.heap_alloc wr (.cells #[.int .i64 0, .int .u64 0] 81) _ hsz).trans hah
      have hKr1 : Kr r w (wr.alloc (.cells #[.int .i64 0, .int .u64 0] 81)) := hKr.trans (Kr.of_below bal)
      have hz1' : (wr.alloc (.cells #[.int .i64 0, .int .u64 0] 81)).heap.size = wr.heap.size + 1 := by simp
      obtain ⟨sb, hsb⟩ : ∃ sb, sb = wr.heap.size := ⟨_, rfl⟩
      rw [← hsb] at hs1 hz1' hsz
      have HSB := hidn hsb
      have hsr : sb ≠ r := by omega
      have hsB : sb ≠ B := by omega
      have hgs : u5.ownBlock ≠ some sb := fun h => by have := (hown.lt sb h).2; omega
      have hgB : u5.ownBlock ≠ some B := fun h => by have := (hown.lt B h).1; omega
      clear bal hRI hown hah hKr hsb
      by_cases hk0 : k = 0
      · have hkz : ((k : Int) == 0) = true := by simp; omega
        have HK0 := hidn hk0
        clear hk0
        go_wp2_with fail
        rw [← HSB.out]
        generalize hW1 : wr.alloc (.cells #[.int .i64 0, .int .u64 0] 81) = W1 at *
        clear hW1
        refine (rtake_any r 64 zs q0 false _ hRI1 (by omega)).mono ?_
        rintro e W2 ⟨rfl, hRI2, k2⟩
        obtain ⟨t1, ht1⟩ : ∃ t1, t1 = tkV zs q0 64 := ⟨_, rfl⟩
        rw [← ht1]
        have t1l : t1 < 18446744073709551616 := by rw [ht1]; exact tkV_lt zs q0 64
        have HT1 := hidn ht1
        have hown2 := own_kr hown1 (by omega) k2
        have hs2 := (k2.2.2.2.2 sb (by omega) hsr).trans hs1
        have hah2 := (k2.2.2.2.2 B (by omega) (by omega)).trans hah1
        have hKr2 := hKr1.trans k2
        have z2 := k2.2.2.2.1
        have f2 : W2.frozen? ⟨sb, 0, none⟩ = false := unfrozen_of_block hs2 _
        have c2 : W2.cell? ⟨sb, 0, none⟩ = some (.int .i64 0) := cell_of_row _ _ _ _ _ _ hs2
        clear ht1 k2 hRI1 hown1 hs1 hah1 hKr1
        go_wp2_with fail
        rw [← HB.out]
        obtain ⟨td, htd⟩ : ∃ td, td = wrap64 (t1 : Int) := ⟨_, rfl⟩
        rw [← htd]
        have HTD := hidn htd
        have tdr := wrap64_rng (t1 : Int)
        rw [← htd] at tdr
        clear htd
        have b3 : Below B W2 (W2.setCell ⟨sb, 0, none⟩ (.int .i64 td)) := (Below.refl B W2).setCell (p := ⟨sb, 0, none⟩) (by show B ≤ sb; omega) _
        have hRI3 := hRI2.belowB hrB hSB b3
        have hs3 : (W2.setCell ⟨sb, 0, none⟩ (.int .i64 td)).heap[sb]? = some (.cells #[.int .i64 td, .int .u64 0] 81 (0, 0)) := block_setCell hs2 _
        have hah3 := (Below.heap_setCell W2 ⟨sb, 0, none⟩ (.int .i64 td) B (fun h => hsB h.symm)).trans hah2
        have hown3 := own_setCell hown2 (a := ⟨sb, 0, none⟩) hgs (.int .i64 td)
        have hKr3 : Kr r w (W2.setCell ⟨sb, 0, none⟩ (.int .i64 td)) := hKr2.thenBelow (by rw [← HB.out]; exact b3)
        have z3 : W2.heap.size ≤ (W2.setCell ⟨sb, 0, none⟩ (.int .i64 td)).heap.size := b3.size
        generalize hW3 : W2.setCell ⟨sb, 0, none⟩ (.int .i64 td) = W3 at *
        clear hW3 b3 hRI2 hs2 hah2 hown2 hKr2
        refine (rtake_any r 64 zs _ _ _ hRI3 (by omega)).mono ?_
        rintro e W4 ⟨rfl, hRI4, k4⟩
        obtain ⟨t2, ht2⟩ : ∃ t2, t2 = tkV zs (tkQ zs q0 64) 64 := ⟨_, rfl⟩
        rw [← ht2]
        have t2l : t2 < 18446744073709551616 := by rw [ht2]; exact tkV_lt zs _ 64
        have HT2 := hidn ht2
        have hown4 := own_kr hown3 (by omega) k4
        have hs4 := (k4.2.2.2.2 sb (by omega) hsr).trans hs3
        have hah4 := (k4.2.2.2.2 B (by omega) (by omega)).trans hah3
        have hKr4 := hKr3.trans k4
        have z4 := k4.2.2.2.1
        have f4 : W4.frozen? ⟨sb, 1, none⟩ = false := unfrozen_of_block hs4 _
        have c4 : W4.cell? ⟨sb, 1, none⟩ = some (.int .u64 0) := cell_of_row _ _ _ _ _ _ hs4
        clear ht2 k4 hRI3 hown3 hs3 hah3 hKr3
        have b5 : Below B W4 (W4.setCell ⟨sb, 1, none⟩ (.int .u64 (t2 : Int))) := (Below.refl B W4).setCell (p := ⟨sb, 1, none⟩) (by show B ≤ sb; omega) _
        have hRI5 := hRI4.belowB hrB hSB b5
        have hs5 : (W4.setCell ⟨sb, 1, none⟩ (.int .u64 (t2 : Int))).heap[sb]? = some (.cells #[.int .i64 td, .int .u64 (t2 : Int)] 81 (0, 0)) := block_setCell hs4 _
        have hah5 := (Below.heap_setCell W4 ⟨sb, 1, none⟩ (.int .u64 (t2 : Int)) B (fun h => hsB h.symm)).trans hah4
        have hown5 := own_setCell hown4 (a := ⟨sb, 1, none⟩) hgs (.int .u64 (t2 : Int))
        have hKr5 : Kr r w (W4.setCell ⟨sb, 1, none⟩ (.int .u64 (t2 : Int))) := hKr4.thenBelow (by rw [← HB.out]; exact b5)
        have z5 : W4.heap.size ≤ (W4.setCell ⟨sb, 1, none⟩ (.int .u64 (t2 : Int))).heap.size := b5.size
        have r5 := hRI5.cell3
        have hl0 : l.length = 0 := by rw [← HK.out]; exact HK0.out
        by_cases hf : q0 + 128 ≤ 8 * zs.length
        · have hq1 : tkQ zs q0 64 = q0 + 64 := by unfold tkQ; rw [if_pos (by omega)]
          have hb1 : tkB zs q0 64 false = false := by unfold tkB; rw [if_pos (by omega)]
          have hq2 : tkQ zs (q0 + 64) 64 = q0 + 128 := by unfold tkQ; rw [if_pos (by omega)]
          have hb2 : tkB zs (q0 + 64) 64 false = false := by unfold tkB; rw [if_pos (by omega)]
          rw [hq1, hb1, hq2, hb2] at hRI5
          rw [hq1, hb1, hb2] at r5
          have HV1 : Hid (t1 = numOf (win zs q0 64)) := hidn (by rw [HT1.out]; unfold tkV; rw [if_pos (by omega)])
          have HV2 : Hid (t2 = numOf (win zs (q0 + 64) 64)) := hidn (by rw [HT2.out, hq1]; unfold tkV; rw [if_pos (by omega)])
          have HSOK : Hid (SamOK ⟨td, t2⟩) := hidn ⟨tdr.1, tdr.2, t2l⟩
          have HRS : Hid (l.length ≠ 0 → (aheadS l l.length).t < (⟨td, t2⟩ : Sam).t) := hidn (fun h => absurd hl0 h)
          have hd0 : decide (l.length = 0) = true := decide_eq_true hl0
          have HAT1 : Hid (At zs (8 * zs.length) (bodyTo l l.length).length (oneOf (decide (l.length = 0)) (aheadS l l.length) (pstepS l l.length) ⟨td, t2⟩)) := hidn (by
            rw [hd0, ← HQ0.out, HTD.out, HV1.out, HV2.out]; exact first_at hf)
          have HU1 : Hid (∀ s', SamOK s' → At zs (8 * zs.length) (bodyTo l l.length).length (oneOf (decide (l.length = 0)) (aheadS l l.length) (pstepS l l.length) s') → s' = ⟨td, t2⟩) := hidn (by
            intro s' h1 h2
            rw [hd0, ← HQ0.out] at h2
            rw [HTD.out, HV1.out, HV2.out]; exact (first_uniq h1 h2).2)
          have HLEN : Hid (q0 + (oneOf (decide (l.length = 0)) (aheadS l l.length) (pstepS l l.length) ⟨td, t2⟩).length = q0 + 128) := hidn (by
            rw [hd0]; simp [oneOf, lowBits_length])
          have HSTEP : Hid (pstepS (l ++ [⟨td, t2⟩]) (l.length + 1) = ps) := hidn (by
            have hl : l = [] := List.length_eq_zero_iff.1 hl0
            rw [HPS.out, hl]; rfl)
          clear hq1 hb1 hq2 hb2 hl0 hd0 hRI4
          generalize hW5 : W4.setCell ⟨sb, 1, none⟩ (.int .u64 (t2 : Int)) = W5 at *
          have x0 : W5.cell? ⟨sb, 0, none⟩ = some (.int .i64 td) := cell_of_row _ _ _ _ _ _ hs5
          have x1 : W5.cell? ⟨sb, 1, none⟩ = some (.int .u64 (t2 : Int)) := cell_of_row _ _ _ _ _ _ hs5
          have r3 := hRI5.cell3
          go_wp2_with (at_builtin; refine wpList_append_own _ rfl _ _ 57 rfl (B + 1) 81 i0 (.agg #[.int .i64 0, .int .u64 0]) 2 16 Tryz.underlying57 hi hz0 hz1 hz2 rfl (by decide) _ _ _ rfl (hown5.alloc _) ⟨W5.heap.size, 0, none⟩ 1 1 [.int .i64 td, .int .u64 (t2 : Int)] rfl rfl ?c1 ?c2 ?c3 ?c4 ?c5 ?_)
          case c1 =>
            intro j u hj
            match j, hj with
            | 0, hj => simp at hj; subst hj; simp [Addr.add]
            | 1, hj => simp at hj; subst hj; simp [Addr.add]
          case c2 => intro u hu; simp at hu; rcases hu with rfl | rfl <;> rfl
          case c3 => unfold maxLen; omega
          case c4 => omega
          case c5 => simp; omega
          intro v6 W6 hown6 hgrow6 _
          have hs6 : W6.heap[sb]? = some (.cells #[.int .i64 td, .int .u64 (t2 : Int)] 81 (0, 0)) := (hgrow6.block sb (by simp; omega) (fun h => hgs h.symm)).trans ((Below.heap_alloc _ _ _ (by omega)).trans hs5)
          have hah6 : W6.heap[B]? = some (.cells #[.int .i64 p, .int .u64 (av : Int)] 81 (0, 0)) := (hgrow6.block B (by simp; omega) (fun h => hgB h.symm)).trans ((Below.heap_alloc _ _ _ (by omega)).trans hah5)
          have hb6 : Below B W5 W6 := ((Below.refl B W5).alloc (by omega) _).grown hgrow6 (by simp; omega) (fun k hk => by have := (hown5.lt k hk).1; omega)
          have z6 : W5.heap.size ≤ W6.heap.size := hb6.size
          have hRI6 := hRI5.belowB hrB hSB hb6
          have hKr6 : Kr r w W6 := hKr5.thenBelow (by rw [← HB.out]; exact hb6)
          have v60 : v6.ownBlock ≠ some B := fun h => by have := (hown6.lt B h).1; omega
          have y0 : W6.cell? ⟨sb, 0, none⟩ = some (.int .i64 td) := cell_of_row _ _ _ _ _ _ hs6
          have y1 : W6.cell? ⟨sb, 1, none⟩ = some (.int .u64 (t2 : Int)) := cell_of_row _ _ _ _ _ _ hs6
          have y2 : W6.frozen? ⟨B, 0, none⟩ = false := unfrozen_of_block hah6 _
          have y3 : W6.frozen? ⟨B, 1, none⟩ = false := unfrozen_of_block hah6 _
          have y4 : W6.cell? ⟨B, 0, none⟩ = some (.int .i64 p) := cell_of_row _ _ _ _ _ _ hah6
          have y5 : W6.cell? ⟨B, 1, none⟩ = some (.int .u64 (av : Int)) := cell_of_row _ _ _ _ _ _ hah6
          have hah7 : (W6.setCell ⟨B, 0, none⟩ (.int .i64 td)).heap[B]? = some (.cells #[.int .i64 td, .int .u64 (av : Int)] 81 (0, 0)) := block_setCell hah6 _
          have hah8 : ((W6.setCell ⟨B, 0, none⟩ (.int .i64 td)).setCell ⟨B, 1, none⟩ (.int .u64 (t2 : Int))).heap[B]? = some (.cells #[.int .i64 td, .int .u64 (t2 : Int)] 81 (0, 0)) := block_setCell hah7 _
          have hb8 : Below B W6 ((W6.setCell ⟨B, 0, none⟩ (.int .i64 td)).setCell ⟨B, 1, none⟩ (.int .u64 (t2 : Int))) := ((Below.refl B W6).setCell (p := ⟨B, 0, none⟩) (Nat.le_refl _) _).setCell (p := ⟨B, 1, none⟩) (Nat.le_refl _) _
          have HFIN : Hid (SInv w ((W6.setCell ⟨B, 0, none⟩ (.int .i64 td)).setCell ⟨B, 1, none⟩ (.int .u64 (t2 : Int))) r n S zs (l ++ [⟨td, t2⟩]) v6) := hidn (by
            refine sinv_next (s := ⟨td, t2⟩) ?_ HSO.out HSOK.out HRI.out HRS.out ?_ (hKr6.thenBelow (by rw [← HB.out]; exact hb8)) ?_ ?_ HU.out HAT.out HAT1.out HU1.out (by rw [← HK.out]; exact hlt)
            · rw [← HB.out, ← HK.out]
              exact own_setCell (own_setCell hown6 v60 _) v60 _
            · rw [← HQ0.out, HLEN.out]
              exact hRI6.belowB hrB hSB hb8
            · rw [← HB.out]
              have := hb8.size
              omega
            · rw [← HB.out]; exact hah8)
          clear hs6 hah6 hb6 hRI6 hKr6 hown6 hgrow6 hah7 hah8 hb8 hs5 hah5 hown5 hKr5 hRI5
          have hB2 := HB.out
          subst hB2
          go_wp2_with fail
          go_roundw
          case rel => exact ⟨l ++ [⟨td, t2⟩], by rw [List.length_append, List.length_singleton, HSTEP.out], by rw [List.length_append, List.length_singleton, ← HK.out]; go_num, HFIN.out⟩
          case measure => simp [intOf]; omega
        · have hbb : tkB zs (tkQ zs q0 64) 64 (tkB zs q0 64 false) = true := by
            unfold tkB tkQ
            by_cases g1 : q0 + 64 ≤ 8 * zs.length
            · rw [if_pos g1, if_pos g1, if_neg (by omega)]
            · simp [g1]
          rw [hbb] at hRI5 r5
          have HNONE : Hid (∀ s', SamOK s' → (l.length ≠ 0 → (aheadS l l.length).t < s'.t) → ¬ At zs (8 * zs.length) (bodyTo l l.length).length (oneOf (decide (l.length = 0)) (aheadS l l.length) (pstepS l l.length) s')) := hidn (by
            intro s' h1 _ h2
            rw [decide_eq_true hl0, ← HQ0.out] at h2
            exact hf (first_uniq h1 h2).1)
          clear hl0 hRI4
          generalize hW5 : W4.setCell ⟨sb, 1, none⟩ (.int .u64 (t2 : Int)) = W5 at *
          have r3 := hRI5.cell3
          have HFIN : Hid (SPost w W5 r n S zs u5) := hidn ⟨l, _, true, by rw [← HK.out, ← HB.out]; exact hown5, HSO.out, HRI.out, hRI5, hKr5, HU.out, HAT.out, .inr ⟨by rw [← HK.out]; exact hlt, uniq_none HU.out (by rw [← HK.out]; exact hlt) HNONE.out⟩⟩
          clear hs5 hah5 hown5 hKr5 hRI5
          go_wp2_with fail
          try rw [Exit.noGoto_ret]
          go_wp2_with fail
          exact bodyPost_ret (v := u5) (by simp [results, Tryz.results195, go_sem]) rfl ⟨u5, rfl, HFIN.out⟩
      · have hkz : ((k : Int) == 0) = false := by simp; omega
        have hl0 : l.length ≠ 0 := by rw [← HK.out]; exact hk0
        have HL0 := hidn hl0
        have HEQ : Hid (∀ s', oneOf (decide (l.length = 0)) (aheadS l l.length) (pstepS l l.length) s' = oneOf false ⟨p, av⟩ ps s') := hidn (by
          intro s'
          rw [decide_eq_false hl0, HP.out, HAV.out, HPS.out])
        have hT1 := tab_kr hT hTr hKr1
        have HPR : Hid ((p : Int) = p) := hidn rfl
        clear hk0 hl0
        go_wp2_with fail
        rw [← HSB.out, ← HB.out]
        generalize hW1 : wr.alloc (.cells #[.int .i64 0, .int .u64 0] 81) = W1 at *
        clear hW1
        refine (rtakeInt_any r zs q0 false _ hRI1 hT1).mono ?_
        rintro e W2 ⟨d, to, er, rfl, hti, hal, k2⟩
        obtain ⟨q1, b1, hRI2, hq1⟩ : ∃ q1 b1, RI W2 r S zs q1 b1 ∧ ((er = 0 ∧ q1 = q0 + intLen d ∧ b1 = false) ∨ (er ≠ 0 ∧ b1 = true)) := by
          rcases hal with ⟨h1, h2⟩ | ⟨h1, h2⟩
          · exact ⟨_, _, h2, .inl ⟨h1, rfl, rfl⟩⟩
          · exact ⟨_, _, h2, .inr ⟨h1, rfl⟩⟩
        have HTI := hidn hti
        have HQ1 := hidn hq1
        have hown2 := own_kr hown1 (by omega) k2
        have hs2 := (k2.2.2.2.2 sb (by omega) hsr).trans hs1
        have hah2 := (k2.2.2.2.2 B (by omega) (by omega)).trans hah1
        have hKr2 := hKr1.trans k2
        have z2 := k2.2.2.2.1
        have f2 : W2.frozen? ⟨sb, 0, none⟩ = false := unfrozen_of_block hs2 _
        have c2 : W2.cell? ⟨sb, 0, none⟩ = some (.int .i64 0) := cell_of_row _ _ _ _ _ _ hs2
        have c3 : W2.cell? ⟨B, 0, none⟩ = some (.int .i64 p) := cell_of_row _ _ _ _ _ _ hah2
        clear hti hq1 hal k2 hRI1 hown1 hs1 hah1 hKr1 hT1
        go_wp2_with fail
        obtain ⟨st2, hst2⟩ : ∃ st2, st2 = wrap64 (ps + d) := ⟨_, rfl⟩
        rw [← hst2]
        obtain ⟨tn, htn⟩ : ∃ tn, tn = wrap64 (p + st2) := ⟨_, rfl⟩
        rw [← htn]
        have HST2 := hidn hst2
        have HTN := hidn htn
        have tnr := wrap64_rng (p + st2)
        rw [← htn] at tnr
        clear hst2 htn
        have b3 : Below B W2 (W2.setCell ⟨sb, 0, none⟩ (.int .i64 tn)).drew := ((Below.refl B W2).setCell (p := ⟨sb, 0, none⟩) (by show B ≤ sb; omega) _).drew
        have hRI3 := hRI2.belowB hrB hSB b3
        have hs3 : (W2.setCell ⟨sb, 0, none⟩ (.int .i64 tn)).drew.heap[sb]? = some (.cells #[.int .i64 tn, .int .u64 0] 81 (0, 0)) := block_setCell hs2 _
        have hah3 : (W2.setCell ⟨sb, 0, none⟩ (.int .i64 tn)).drew.heap[B]? = some (.cells #[.int .i64 p, .int .u64 (av : Int)] 81 (0, 0)) := (Below.heap_setCell W2 ⟨sb, 0, none⟩ (.int .i64 tn) B (fun h => hsB h.symm)).trans hah2
        have hown3 : (W2.setCell ⟨sb, 0, none⟩ (.int .i64 tn)).drew.ownsRow (B + 1) 81 2 u5 k (vsm l) := own_setCell hown2 (a := ⟨sb, 0, none⟩) hgs (.int .i64 tn)
        have hKr3 : Kr r w (W2.setCell ⟨sb, 0, none⟩ (.int .i64 tn)).drew := hKr2.thenBelow (by rw [← HB.out]; exact b3)
        have z3 : W2.heap.size ≤ (W2.setCell ⟨sb, 0, none⟩ (.int .i64 tn)).drew.heap.size := b3.size
        clear b3 hRI2 hs2 hah2 hown2 hKr2 c2 f2
        generalize hW3 : (W2.setCell ⟨sb, 0, none⟩ (.int .i64 tn)).drew = W3 at *
        refine wp_region_noPanic ?_
        refine wp_region_held_drew (S := fun w' => w'.heap[B]? = some (.cells #[.int .i64 p, .int .u64 (av : Int)] 81 (0, 0))) (by kernel_rfl) (by rw [hW3]; exact hah3) (fun hHeld => ?_)
        rw [hW3] at hHeld ⊢
        refine drawn_take (i := 0) (v := .pointer (some ⟨B, 1, none⟩)) (some 24) rfl rfl (by kernel_rfl) (by kernel_rfl) (by kernel_rfl) (fun _ _ _ h => h) (Or.inl ⟨by kernel_rfl, fun wq hw => by go_simp⟩) hHeld ?_
        simp only [Act.put, List.setIfInBounds_toArray, List.set_cons_succ, List.set_cons_zero]
        refine drawn_take (i := 1) (v := .int .u64 (av : Int)) (some 25) rfl rfl (by kernel_rfl) (by kernel_rfl) (by kernel_rfl) (fun _ _ _ h => h) (Or.inl ⟨by kernel_rfl, fun wq hw => by have q9 : wq.cell? ⟨B, 1, none⟩ = some (.int .u64 (av : Int)) := cell_of_row _ _ _ _ _ _ hw; go_simp⟩) hHeld ?_
        simp only [Act.put, List.setIfInBounds_toArray, List.set_cons_succ, List.set_cons_zero]
        refine drawn_take (i := 2) (v := .pointer (some ⟨r, 0, none⟩)) (some 26) rfl rfl (by kernel_rfl) (by kernel_rfl) (by kernel_rfl) (fun _ _ _ h => h) (Or.inl ⟨by kernel_rfl, fun wq hw => by go_simp⟩) hHeld ?_
        simp only [Act.put, List.setIfInBounds_toArray, List.set_cons_succ, List.set_cons_zero]
        refine wpAnyH_ready (rs := [3]) (by kernel_rfl) (by simp) ?_
        refine rdy_call (i := 3) rfl rfl (some 27) rfl 234 #[.pointer (some ⟨r, 0, none⟩)] (rd_turned (x0 := 26) (ts := #[320]) (by kernel_rfl) (by kernel_rfl)) (fun v w' => ∃ (x q' : Nat), v = .int .u64 (x : Int) ∧ x < 18446744073709551616 ∧ ((RI w' r S zs (q1 + (turned x).length) b1 ∧ At zs (8 * zs.length) q1 (turned x)) ∨ (RI w' r S zs q' true ∧ ∀ y, y < 18446744073709551616 → ¬ At zs (8 * zs.length) q1 (turned y))) ∧ Kr r W3 w') ((takeTurned_any r zs q1 b1 _ hRI3).mono fun e w' h => by obtain ⟨x, q', h1, h2⟩ := h; exact ⟨_, h1, x, q', rfl, h2⟩) (fun r w9 hR => ?_) rdy_nil
        obtain ⟨x, q', rfl, hxl, hal, k4⟩ := hR
        have hah4 := (k4.2.2.2.2 B (by omega) (by omega)).trans hah3
        refine ⟨hah4, fun hHeld => ?_⟩
        simp only [Act.put, List.setIfInBounds_toArray, List.set_cons_succ, List.set_cons_zero]
        obtain ⟨q2, b2, hRI4, hq2⟩ : ∃ q2 b2, RI w9 r S zs q2 b2 ∧ ((b2 = b1 ∧ q2 = q1 + (turned x).length ∧ At zs (8 * zs.length) q1 (turned x)) ∨ (b2 = true ∧ ∀ y, y < 18446744073709551616 → ¬ At zs (8 * zs.length) q1 (turned y))) := by
          rcases hal with ⟨h1, h2⟩ | ⟨h1, h2⟩
          · exact ⟨_, _, h1, .inl ⟨rfl, rfl, h2⟩⟩
          · exact ⟨_, _, h1, .inr ⟨rfl, h2⟩⟩
        have HQ2 := hidn hq2
        have hxor : bits BinOp.xor IntKind.u64 (av : Int) (x : Int) = ((av ^^^ x : Nat) : Int) := bits_xor_u .u64 rfl _ _ hpok.2.2 hxl
        obtain ⟨vn, hvn⟩ : ∃ vn, vn = av ^^^ x := ⟨_, rfl⟩
        have vnl : vn < 18446744073709551616 := by rw [hvn]; exact Nat.xor_lt_two_pow (n := 64) hpok.2.2 hxl
        rw [← hvn] at hxor
        have HVN := hidn hvn
        clear hvn hq2 hal
        have hown4 := own_kr hown3 (by omega) k4
        have hs4 := (k4.2.2.2.2 sb (by omega) hsr).trans hs3
        have hKr4 := hKr3.trans k4
        have z4 := k4.2.2.2.1
        have f4 : w9.frozen? ⟨sb, 1, none⟩ = false := unfrozen_of_block hs4 _
        have c4 : w9.cell? ⟨sb, 1, none⟩ = some (.int .u64 0) := cell_of_row _ _ _ _ _ _ hs4
        refine drawn_take (i := 4) (v := .int .u64 (vn : Int)) (some 28) rfl rfl (by kernel_rfl) (by kernel_rfl) (by kernel_rfl) (fun _ _ _ h => h) (Or.inl ⟨by kernel_rfl, fun wq hw => by go_simp⟩) hHeld ?_
        simp only [Act.put, List.setIfInBounds_toArray, List.set_cons_succ, List.set_cons_zero]
        refine drawn_take (i := 5) (v := .pointer (some ⟨sb, 1, none⟩)) (some 29) rfl rfl (by kernel_rfl) (by kernel_rfl) (by kernel_rfl) (fun _ _ _ h => h) (Or.inl ⟨by kernel_rfl, fun wq hw => by go_simp⟩) hHeld ?_
        simp only [Act.put, List.setIfInBounds_toArray, List.set_cons_succ, List.set_cons_zero]
        have hah5 := (Below.heap_setCell w9 ⟨sb, 1, none⟩ (.int .u64 (vn : Int)) B (fun h => hsB h.symm)).trans hah4
        refine wpAnyH_ready (rs := [6]) (by kernel_rfl) (by simp) ?_
        refine rdy_unit (i := 6) rfl rfl none rfl (w9.setCell ⟨sb, 1, none⟩ (.int .u64 (vn : Int))) (by go_simp) (hah5) (fun hHeld => ?_) rdy_nil
        simp only [Act.put]
        refine wpAnyH_done (by kernel_rfl) ?_ _
        refine NoPanic.normal ?_
        clear hHeld
        have b5 : Below B w9 (w9.setCell ⟨sb, 1, none⟩ (.int .u64 (vn : Int))) := (Below.refl B w9).setCell (p := ⟨sb, 1, none⟩) (by show B ≤ sb; omega) _
        have hRI5 := hRI4.belowB hrB hSB b5
        have hs5 : (w9.setCell ⟨sb, 1, none⟩ (.int .u64 (vn : Int))).heap[sb]? = some (.cells #[.int .i64 tn, .int .u64 (vn : Int)] 81 (0, 0)) := block_setCell hs4 _
        have hown5 := own_setCell hown4 (a := ⟨sb, 1, none⟩) hgs (.int .u64 (vn : Int))
        have hKr5 : Kr r w (w9.setCell ⟨sb, 1, none⟩ (.int .u64 (vn : Int))) := hKr4.thenBelow (by rw [← HB.out]; exact b5)
        have z5 : w9.heap.size ≤ (w9.setCell ⟨sb, 1, none⟩ (.int .u64 (vn : Int))).heap.size := b5.size
        clear k4 hRI3 hown3 hs3 hah3 hKr3 c3 hRI4 hs4 hah4 hown4 hKr4 f4 c4 b5
        generalize hW5 : w9.setCell ⟨sb, 1, none⟩ (.int .u64 (vn : Int)) = W5 at *
        clear hW5 hW3
        have HONLY : Hid (∀ s', SamOK s' → At zs (8 * zs.length) q0 (oneOf false ⟨p, av⟩ ps s') → b2 = false ∧ s' = ⟨tn, vn⟩) := hidn (by
          intro s' h1 h2
          obtain ⟨d', x', g1, g2, g3, g4, g5⟩ := next_uniq hpok hpsr h1 h2
          have gti := ti_full can_full g1.1 g1.2 g3
          obtain ⟨u1, u2, u3⟩ := TI.unique HTI.out gti
          subst u1 u3
          rcases HQ1.out with ⟨_, m1, m2⟩ | ⟨m1, _⟩
          · rw [← m1] at g4
            rcases HQ2.out with ⟨n1, n2, n3⟩ | ⟨n1, n2⟩
            · have hxx := turned_uniq hxl g2 n3 g4
              exact ⟨by rw [n1, m2], by rw [g5, HTN.out, HST2.out, HVN.out, hxx]⟩
            · exact absurd g4 (n2 x' g2)
          · exact absurd rfl m1)
        have u0 : W5.cell? ⟨sb, 0, none⟩ = some (.int .i64 tn) := cell_of_row _ _ _ _ _ _ hs5
        have u1 : W5.cell? ⟨B, 0, none⟩ = some (.int .i64 p) := cell_of_row _ _ _ _ _ _ hah5
        by_cases hle2 : tn ≤ p
        · have hdl : decide (tn ≤ p) = true := decide_eq_true hle2
          have HFIN : Hid (SPost w W5 r n S zs u5) := hidn ⟨l, q2, b2, by rw [← HK.out, ← HB.out]; exact hown5, HSO.out, HRI.out, hRI5, hKr5, HU.out, HAT.out, .inr ⟨by rw [← HK.out]; exact hlt, uniq_none HU.out (by rw [← HK.out]; exact hlt) (by
            intro s' h1 h2 h3
            rw [HEQ.out, ← HQ0.out] at h3
            have h4 := (HONLY.out s' h1 h3).2
            have h5 := h2 HL0.out
            rw [h4, ← HP.out] at h5
            simp only at h5
            omega)⟩⟩
          clear hs5 hah5 hown5 hKr5 hRI5
          go_wp2_with fail
          try rw [Exit.noGoto_ret]
          go_wp2_with fail
          exact bodyPost_ret (v := u5) (by simp [results, Tryz.results195, go_sem]) rfl ⟨u5, rfl, HFIN.out⟩
        · have hdl : decide (tn ≤ p) = false := decide_eq_false hle2
          have r5 := hRI5.cell3
          cases b2 with
          | true =>
            have HFIN : Hid (SPost w W5 r n S zs u5) := hidn ⟨l, q2, true, by rw [← HK.out, ← HB.out]; exact hown5, HSO.out, HRI.out, hRI5, hKr5, HU.out, HAT.out, .inr ⟨by rw [← HK.out]; exact hlt, uniq_none HU.out (by rw [← HK.out]; exact hlt) (by
              intro s' h1 h2 h3
              rw [HEQ.out, ← HQ0.out] at h3
              have h4 := (HONLY.out s' h1 h3).1
              cases h4)⟩⟩
            clear hs5 hah5 hown5 hKr5 hRI5
            go_wp2_with fail
            try rw [Exit.noGoto_ret]
            go_wp2_with fail
            exact bodyPost_ret (v := u5) (by simp [results, Tryz.results195, go_sem]) rfl ⟨u5, rfl, HFIN.out⟩
          | false =>
            obtain ⟨g1, g2, g3, g4⟩ : er = 0 ∧ q1 = q0 + intLen d ∧ At zs (8 * zs.length) q1 (turned x) ∧ q2 = q1 + (turned x).length := by
              rcases HQ2.out with ⟨n1, n2, n3⟩ | ⟨n1, _⟩
              · rcases HQ1.out with ⟨m1, m2, m3⟩ | ⟨m1, m2⟩
                · exact ⟨m1, m2, n3, n2⟩
                · rw [← n1] at m2; cases m2
              · cases n1
            have hti0 := HTI.out
            rw [g1] at hti0
            obtain ⟨_, td2, td3⟩ := ti_at hti0
            have HSOK : Hid (SamOK ⟨tn, vn⟩) := hidn ⟨tnr.1, tnr.2, vnl⟩
            have HRS : Hid (l.length ≠ 0 → (aheadS l l.length).t < (⟨tn, vn⟩ : Sam).t) := hidn (fun _ => by rw [← HP.out]; show p < tn; omega)
            have hone : At zs (8 * zs.length) q0 (oneOf false ⟨p, av⟩ ps ⟨tn, vn⟩) := by
              rw [g2] at g3
              have := next_at (a := ⟨p, av⟩) hpok hpsr td2 td3 hxl g3
              rw [HTN.out, HST2.out, HVN.out]
              exact this
            have HAT1 : Hid (At zs (8 * zs.length) (bodyTo l l.length).length (oneOf (decide (l.length = 0)) (aheadS l l.length) (pstepS l l.length) ⟨tn, vn⟩)) := hidn (by
              rw [HEQ.out, ← HQ0.out]; exact hone)
            have HU1 : Hid (∀ s', SamOK s' → At zs (8 * zs.length) (bodyTo l l.length).length (oneOf (decide (l.length = 0)) (aheadS l l.length) (pstepS l l.length) s') → s' = ⟨tn, vn⟩) := hidn (by
              intro s' h1 h2
              rw [HEQ.out, ← HQ0.out] at h2
              exact (HONLY.out s' h1 h2).2)
            have HLEN : Hid (q0 + (oneOf (decide (l.length = 0)) (aheadS l l.length) (pstepS l l.length) ⟨tn, vn⟩).length = q2) := hidn (by
              rw [HEQ.out]
              show q0 + (intBits (wrap64 (wrap64 (tn - p) - ps)) ++ turned (vn ^^^ av)).length = q2
              have e1 : wrap64 (wrap64 (tn - p) - ps) = d := by
                have a1 := hpok.1
                have a2 := hpok.2.1
                simp only at a1 a2
                rw [HTN.out, HST2.out]
                unfold wrap64; omega
              have e2 : vn ^^^ av = x := by rw [HVN.out, Nat.xor_comm av x, Nat.xor_assoc, Nat.xor_self, Nat.xor_zero]
              rw [e1, e2, List.length_append, intBits_length, g4, g2]; omega)
            have HSTEP : Hid (pstepS (l ++ [⟨tn, vn⟩]) (l.length + 1) = st2) := hidn (by
              rw [pstep_snoc HL0.out, ← HP.out]
              show wrap64 (tn - p) = st2
              have a1 := hpok.1
              have a2 := hpok.2.1
              simp only at a1 a2
              have a3 := wrap64_rng (ps + d)
              rw [← HST2.out] at a3
              rw [HTN.out]
              unfold wrap64; omega)
            clear g1 g3 hti0 td3 hone g4 g2
            have x0 : W5.cell? ⟨sb, 0, none⟩ = some (.int .i64 tn) := cell_of_row _ _ _ _ _ _ hs5
            have x1 : W5.cell? ⟨sb, 1, none⟩ = some (.int .u64 (vn : Int)) := cell_of_row _ _ _ _ _ _ hs5
            have r3 := hRI5.cell3
            go_wp2_with (at_builtin; refine wpList_append_own _ rfl _ _ 57 rfl (B + 1) 81 i0 (.agg #[.int .i64 0, .int .u64 0]) 2 16 Tryz.underlying57 hi hz0 hz1 hz2 rfl (by decide) _ _ _ rfl (hown5.alloc _) ⟨W5.heap.size, 0, none⟩ 1 1 [.int .i64 tn, .int .u64 (vn : Int)] rfl rfl ?c1 ?c2 ?c3 ?c4 ?c5 ?_)
            try case c1 =>
              intro j u hj
              match j, hj with
              | 0, hj => simp at hj; subst hj; simp [Addr.add]
              | 1, hj => simp at hj; subst hj; simp [Addr.add]
            case c2 => first | exact ⟨rfl, rfl⟩ | (intro u hu; simp at hu; rcases hu with rfl | rfl <;> rfl)
            case c3 => unfold maxLen; omega
            case c4 => omega
            case c5 => first | omega | (simp; omega)
            intro v6 W6 hown6 hgrow6 _
            have hs6 : W6.heap[sb]? = some (.cells #[.int .i64 tn, .int .u64 (vn : Int)] 81 (0, 0)) := (hgrow6.block sb (by simp; omega) (fun h => hgs h.symm)).trans ((Below.heap_alloc _ _ _ (by omega)).trans hs5)
            have hah6 : W6.heap[B]? = some (.cells #[.int .i64 p, .int .u64 (av : Int)] 81 (0, 0)) := (hgrow6.block B (by simp; omega) (fun h => hgB h.symm)).trans ((Below.heap_alloc _ _ _ (by omega)).trans hah5)
            have hb6 : Below B W5 W6 := ((Below.refl B W5).alloc (by omega) _).grown hgrow6 (by simp; omega) (fun k hk => by have := (hown5.lt k hk).1; omega)
            have z6 : W5.heap.size ≤ W6.heap.size := hb6.size
            have hRI6 := hRI5.belowB hrB hSB hb6
            have hKr6 : Kr r w W6 := hKr5.thenBelow (by rw [← HB.out]; exact hb6)
            have v60 : v6.ownBlock ≠ some B := fun h => by have := (hown6.lt B h).1; omega
            have y0 : W6.cell? ⟨sb, 0, none⟩ = some (.int .i64 tn) := cell_of_row _ _ _ _ _ _ hs6
            have y1 : W6.cell? ⟨sb, 1, none⟩ = some (.int .u64 (vn : Int)) := cell_of_row _ _ _ _ _ _ hs6
            have y2 : W6.frozen? ⟨B, 0, none⟩ = false := unfrozen_of_block hah6 _
            have y3 : W6.frozen? ⟨B, 1, none⟩ = false := unfrozen_of_block hah6 _
            have y4 : W6.cell? ⟨B, 0, none⟩ = some (.int .i64 p) := cell_of_row _ _ _ _ _ _ hah6
            have y5 : W6.cell? ⟨B, 1, none⟩ = some (.int .u64 (av : Int)) := cell_of_row _ _ _ _ _ _ hah6
            have hah7 : (W6.setCell ⟨B, 0, none⟩ (.int .i64 tn)).heap[B]? = some (.cells #[.int .i64 tn, .int .u64 (av : Int)] 81 (0, 0)) := block_setCell hah6 _
            have hah8 : ((W6.setCell ⟨B, 0, none⟩ (.int .i64 tn)).setCell ⟨B, 1, none⟩ (.int .u64 (vn : Int))).heap[B]? = some (.cells #[.int .i64 tn, .int .u64 (vn : Int)] 81 (0, 0)) := block_setCell hah7 _
            have hb8 : Below B W6 ((W6.setCell ⟨B, 0, none⟩ (.int .i64 tn)).setCell ⟨B, 1, none⟩ (.int .u64 (vn : Int))) := ((Below.refl B W6).setCell (p := ⟨B, 0, none⟩) (Nat.le_refl _) _).setCell (p := ⟨B, 1, none⟩) (Nat.le_refl _) _
            have HFIN : Hid (SInv w ((W6.setCell ⟨B, 0, none⟩ (.int .i64 tn)).setCell ⟨B, 1, none⟩ (.int .u64 (vn : Int))) r n S zs (l ++ [⟨tn, vn⟩]) v6) := hidn (by
              refine sinv_next (s := ⟨tn, vn⟩) ?_ HSO.out HSOK.out HRI.out HRS.out ?_ (hKr6.thenBelow (by rw [← HB.out]; exact hb8)) ?_ ?_ HU.out HAT.out HAT1.out HU1.out (by rw [← HK.out]; exact hlt)
              · rw [← HB.out, ← HK.out]
                exact own_setCell (own_setCell hown6 v60 _) v60 _
              · rw [← HQ0.out, HLEN.out]
                exact hRI6.belowB hrB hSB hb8
              · rw [← HB.out]
                have := hb8.size
                omega
              · rw [← HB.out]; exact hah8)
            clear hs6 hah6 hb6 hRI6 hKr6 hown6 hgrow6 hah7 hah8 hb8 hs5 hah5 hown5 hKr5 hRI5
            have hB2 := HB.out
            subst hB2
            go_wp2_with fail
            go_roundw
            case rel => exact ⟨l ++ [⟨tn, vn⟩], by rw [List.length_append, List.length_singleton, HSTEP.out], by rw [List.length_append, List.length_singleton, ← HK.out]; go_num, HFIN.out⟩
            case measure => simp [intOf]; omega
    · have hke : ¬ (k : Int) < (n : Int) := by omega
      have HFIN : Hid (SPost w wr r n S zs u5) := hidn ⟨l, q0, false, by rw [← HK.out, ← HB.out]; exact hown, HSO.out, HRI.out, hRI, hKr, HU.out, HAT.out, .inl ⟨by rw [← HK.out]; omega, rfl, HQ0.out⟩⟩
      clear hown hRI hKr hah
      go_wp2_with fail
      try rw [Exit.noGoto_ret]
      go_wp2_with fail
      exact bodyPost_ret (v := u5) (by simp [results, Tryz.results195, go_sem]) rfl ⟨u5, rfl, HFIN.out⟩

end Go.Proofs.YtfgfkifdokeefaaGreatDoor.Cd
