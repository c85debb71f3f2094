/- codec.Can and codec.Encode: contracts at every list of samples. -/
import Derived.Test.YtfgfkifdokeefaaDoorCodZ
import Derived.Test.YtfgfkifdokeefaaDoorPutWalk
namespace Go.Proofs.YtfgfkifdokeefaaDoor.Cd
open Go.RowKit Go.Joins
set_option linter.unusedVariables false
set_option linter.unusedSimpArgs false

/-- A slice of samples. -/
def Sm (w : World) (a : Option Addr) (len : Nat) (l : List Sam) : Prop :=
  l.length = len ∧ len ≤ maxLen ∧ (∀ i, SamOK (samD l i)) ∧ (a = none → len = 0) ∧
    ∀ x, a = some x → ∀ j, j < len → w.cell? (x.add (j * 2)) = some (.int .i64 (samD l j).t) ∧ w.cell? (x.add (j * 2 + 1)) = some (.int .u64 (samD l j).v)
theorem samOK_zero : SamOK ⟨0, 0⟩ := ⟨by decide, by decide, by decide⟩
theorem Sm.nil (w : World) : Sm w none 0 [] := ⟨rfl, Nat.zero_le _, fun i => samOK_zero, fun _ => rfl, by simp⟩
theorem Sm.pos {w : World} {a : Option Addr} {len : Nat} {l : List Sam} (h : Sm w a len l) (h0 : 0 < len) :
    ∃ b off, a = some ⟨b, off, none⟩ ∧ b < w.heap.size ∧ ∀ j, j < len → w.cell? ⟨b, off + j * 2, none⟩ = some (.int .i64 (samD l j).t) ∧ w.cell? ⟨b, off + j * 2 + 1, none⟩ = some (.int .u64 (samD l j).v) := by
  obtain ⟨hl, hm, hz, hn, hc⟩ := h
  cases a with
  | none => have := hn rfl; omega
  | some x =>
    obtain ⟨b, off, spot⟩ := x
    have hc0 := (hc _ rfl 0 h0).1
    have hspot : spot = none := by simpa [Addr.add] using World.cell?_spot hc0
    subst hspot
    have hb := block_lt_of_cell hc0
    refine ⟨b, off, rfl, by simpa [Addr.add] using hb, fun j hj => ?_⟩
    have := hc _ rfl j hj
    rw [add_none, add_none] at this
    exact this
theorem Sm.below {w w' : World} {a : Option Addr} {len : Nat} {l : List Sam} (h : Sm w a len l) (hb : Below w.heap.size w w') : Sm w' a len l := by
  obtain ⟨hl, hm, hz, hn, hc⟩ := h
  refine ⟨hl, hm, hz, hn, fun x hx j hj => ?_⟩
  have h1 := (hc x hx j hj).1
  have h2 := (hc x hx j hj).2
  rw [hb.cell (block_lt_of_cell h1), hb.cell (block_lt_of_cell h2)]; exact ⟨h1, h2⟩

set_option maxHeartbeats 2000000 in
set_option maxRecDepth 100000 in
theorem scan_any (a : Option Addr) (len cap : Nat) (l : List Sam) (w : World) (h : Sm w a len l) :
    Calls Tryd.prog 33 #[.slice a len cap] w fun e w' => e = .returned (.bool (canS l)) ∧ Below w.heap.size w w' := by
  have hm := h.2.1
  unfold maxLen at hm
  by_cases hl : len ≤ 65535
  · have hb0 : decide (65535 < (len : Int)) = false := by simp; omega
    go_enter Tryd.func33, Tryd.ntmps33
    go_wp2
    go_loopw [3] (fun iv wr => ∃ k : Nat, (1 ≤ k ∧ (k ≤ len ∨ k = 1)) ∧ iv = .int .i64 (k : Int) ∧ Hid (∀ i, i + 1 < k → (samD l i).t < (samD l (i + 1)).t) ∧ Below w.heap.size w wr) (fun iv _ => len - (intOf iv).toNat)
    case atStart => exact ⟨1, by omega, rfl, hidn (fun i hi => by omega), Below.refl _ _⟩
    case round =>
      obtain ⟨k, hk, rfl, HK, hbw⟩ := hrel
      by_cases hlt : k < len
      · obtain ⟨b, off, rfl, hb, hcl⟩ := h.pos (by omega)
        obtain ⟨j, hj⟩ : ∃ j, k = j + 1 := ⟨k - 1, by omega⟩
        have hji : (k : Int) - 1 = (j : Int) := by omega
        have hjl : j < len := by omega
        have hjli : (j : Int) < (len : Int) := by omega
        have hkli : (k : Int) < (len : Int) := by omega
        have c1 : wr.cell? ⟨b, off + j * 2, none⟩ = some (.int .i64 (samD l j).t) := (hbw.cell (p := ⟨b, off + j * 2, none⟩) hb).trans (hcl j hjl).1
        have c2 : wr.cell? ⟨b, off + k * 2, none⟩ = some (.int .i64 (samD l k).t) := (hbw.cell (p := ⟨b, off + k * 2, none⟩) hb).trans (hcl k hlt).1
        have HJ := hidn hj
        have HT : Hid ((samD l k).t ≤ (samD l j).t → canS l = false) := hidn (by
          intro hh
          rw [Bool.eq_false_iff]
          intro hc
          have := ((canS_iff l).1 hc).2 j (by rw [h.1]; omega)
          rw [← hj] at this
          omega)
        have HN : Hid ((samD l j).t < (samD l k).t → ∀ i, i + 1 < k + 1 → (samD l i).t < (samD l (i + 1)).t) := hidn (by
          intro hh i hi
          by_cases hij : i = j
          · subst hij; rw [← hj]; exact hh
          · exact HK.out i (by omega))
        clear hcl hj
        generalize (samD l j).t = tj at *
        generalize (samD l k).t = tk at *
        by_cases hle : tk ≤ tj
        · have hd : decide (tk ≤ tj) = true := decide_eq_true hle
          have HC := hidn (HT.out hle)
          clear hle HT HN
          go_wp2
          go_quiet (fail)
          go_wp2
          go_ret
          rw [HC.out]
          exact ⟨rfl, below_drewN hbw _⟩
        · have hd : decide (tk ≤ tj) = false := decide_eq_false hle
          have HN2 := hidn (HN.out (by omega))
          clear hle HT HN
          go_wp2
          go_quiet (fail)
          go_wp2
          go_roundw
          case rel => exact ⟨k + 1, by omega, by go_num, HN2, below_drewN hbw _⟩
          case measure => simp [intOf]; omega
      · have HC : Hid (canS l = true) := hidn ((canS_iff l).2 ⟨by rw [h.1]; exact hl, fun i hi => HK.out i (by rw [h.1] at hi; omega)⟩)
        go_wp2
        go_ret
        rw [HC.out]
        exact ⟨rfl, hbw⟩
  · have hb0 : decide (65535 < (len : Int)) = true := by simp; omega
    have HC : Hid (canS l = false) := hidn (by
      rw [Bool.eq_false_iff]
      intro hh
      have := ((canS_iff l).1 hh).1
      rw [h.1] at this
      omega)
    rw [HC.out]
    go_enter Tryd.func33, Tryd.ntmps33
    go_wp2
    go_ret
    exact ⟨rfl, Below.refl _ _⟩

set_option maxHeartbeats 2000000 in
set_option maxRecDepth 100000 in
theorem senc_no (a : Option Addr) (len cap : Nat) (l : List Sam) (w : World) (h : Sm w a len l) (hc : canS l = false) :
    Calls Tryd.prog 37 #[.slice a len cap] w fun e w' => e = .returned (.tuple #[.slice none 0 0, .int .i64 1]) ∧ Below w.heap.size w w' := by
  go_enter Tryd.func37, Tryd.ntmps37
  go_wp2_with fail
  refine (scan_any a len cap l _ h).mono ?_
  rintro e w1 ⟨rfl, hb⟩
  rw [hc]
  go_wp2
  go_ret2
  exact ⟨rfl, hb⟩

theorem WI.below {w w' : World} {B b : Nat} {L : List Bool} (h : WI w B b L) (hb : Below w.heap.size w w') : WI w' B b L := by
  obtain ⟨hBb, v, zs, ys, T, a, cap, h1, h2, h3, h4, h5⟩ := h
  exact ⟨hBb, v, zs, ys, T, a, cap, (hb.block b (Array.getElem?_eq_some_iff.1 h1).1).trans h1, own_of_below h2 hb, h3.below hb, h4, h5⟩
theorem bs_set_row {w : World} {a : Option Addr} {len : Nat} {zs : List Nat} (h : Bs w a len zs) {ab o : Nat} {p q : Int} {T : TypeId} {fr : Nat × Nat} (hab : w.heap[ab]? = some (.cells #[.int .i64 p, .int .u64 q] T fr)) (u : Value) : Bs (w.setCell ⟨ab, o, none⟩ u) a len zs := by
  by_cases h0 : 0 < len
  · obtain ⟨b, off, rfl, hb, hc⟩ := h.pos h0
    refine bs_setCell h (fun x hx => ?_) u
    cases hx
    intro he
    have he' : b = ab := he
    subst he'
    have h1 := hc 0 h0
    rw [cell_of_row _ _ _ _ _ _ hab] at h1
    match off, h1 with
    | 0, h1 => simp at h1
    | 1, h1 => simp at h1
    | n + 2, h1 => simp at h1
  · obtain ⟨h1, h2, h3, h4, h5⟩ := h
    exact ⟨h1, h2, h3, h4, fun x hx j hj => by omega⟩
theorem WI.set_row {w : World} {B b ab o : Nat} {L : List Bool} {p q : Int} (h : WI w B b L) (hab : w.heap[ab]? = some (.cells #[.int .i64 p, .int .u64 q] 50 (0, 0))) (u : Value) : WI (w.setCell ⟨ab, o, none⟩ u) B b L := by
  obtain ⟨hBb, v, zs, ys, T, a, cap, h1, h2, h3, h4, h5⟩ := h
  have hne : b ≠ ab := by
    rintro rfl
    rw [h1] at hab
    cases hab
  refine ⟨hBb, v, zs, ys, T, a, cap, (Below.heap_setCell _ _ _ _ hne).trans h1, own_setCell h2 (fun h => ?_) u, bs_set_row h3 hab u, h4, h5⟩
  obtain ⟨c, fz, hc⟩ := Lib.ownsRowF_kind (World.ownsRowF_of h2) ab h
  rw [hab] at hc
  cases hc
theorem turned_len (x : Nat) : (turned x).length ≤ 77 := by
  unfold turned
  split
  · rw [lowBits_length]; omega
  · simp only [List.length_append, lowBits_length]; unfold widZ; omega
theorem intBits_len (n : Int) : (intBits n).length ≤ 68 := by
  rw [intBits_length]; have h1 := clsMarks_le (cls n); have h2 := clsWidth_le (cls n); unfold intLen; omega
theorem encOne_len (l : List Sam) (k : Nat) : (encOne l k).length ≤ 150 := by
  cases k with
  | zero => simp [encOne, lowBits_length]
  | succ k =>
    have h1 := intBits_len (wrap64 (stepS l (k + 1) - stepS l k))
    have h2 := turned_len ((samD l (k + 1)).v ^^^ (samD l k).v)
    simp only [encOne, List.length_append]; omega
theorem encTo_len (l : List Sam) : ∀ k, (encTo l k).length ≤ 16 + 150 * k := by
  intro k
  induction k with
  | zero => simp [encTo, lowBits_length]
  | succ k ih => have := encOne_len l k; simp only [encTo, List.length_append]; omega
/-- The sample ahead of the one at k, and its difference. -/
def aheadS (l : List Sam) : Nat → Sam
  | 0 => ⟨0, 0⟩
  | k + 1 => samD l k
def pstepS (l : List Sam) : Nat → Int
  | 0 => 0
  | k + 1 => stepS l k

theorem enc_end {w0 w : World} {B b : Nat} {L : List Bool} {p q p' q' : Int} (hBb : B ≤ b + 1) (hwi : WI w B b L) (hah : w.heap[b + 1]? = some (.cells #[.int .i64 p, .int .u64 q] 50 (0, 0))) (hl : Below B w0 w) :
    WI ((w.setCell ⟨b + 1, 0, none⟩ (.int .i64 p')).setCell ⟨b + 1, 1, none⟩ (.int .u64 q')) B b L ∧ ((w.setCell ⟨b + 1, 0, none⟩ (.int .i64 p')).setCell ⟨b + 1, 1, none⟩ (.int .u64 q')).heap[b + 1]? = some (.cells #[.int .i64 p', .int .u64 q'] 50 (0, 0)) ∧ Below B w0 ((w.setCell ⟨b + 1, 0, none⟩ (.int .i64 p')).setCell ⟨b + 1, 1, none⟩ (.int .u64 q')) := by
  have h1 : (w.setCell ⟨b + 1, 0, none⟩ (.int .i64 p')).heap[b + 1]? = some (.cells #[.int .i64 p', .int .u64 q] 50 (0, 0)) := block_setCell hah _
  have h2 : ((w.setCell ⟨b + 1, 0, none⟩ (.int .i64 p')).setCell ⟨b + 1, 1, none⟩ (.int .u64 q')).heap[b + 1]? = some (.cells #[.int .i64 p', .int .u64 q'] 50 (0, 0)) := block_setCell h1 _
  exact ⟨(hwi.set_row hah _).set_row h1 _, h2, (hl.setCell (p := ⟨b + 1, 0, none⟩) hBb _).setCell (p := ⟨b + 1, 1, none⟩) hBb _⟩

set_option maxHeartbeats 4000000 in
set_option maxRecDepth 100000 in
theorem senc_yes (a : Option Addr) (len cap : Nat) (l : List Sam) (w : World) (h : Sm w a len l) (hc : canS l = true) (hT : BitsTab w) (hD : DbTab w) :
    Calls Tryd.prog 37 #[.slice a len cap] w fun e w' => ∃ (v : Value) (zs : List Nat), e = .returned (.tuple #[v, .int .i64 0]) ∧ IsPack zs (encS l) ∧ w'.ownsRow w.heap.size 5 1 v zs.length (vb zs) ∧ Below w.heap.size w w' := by
  have hl16 := ((canS_iff l).1 hc).1
  rw [h.1] at hl16
  have hwr : IntKind.u64.wrap (len : Int) = (len : Int) := wrap_u_lt .u64 rfl _ (by show len < 18446744073709551616; omega)
  have HLl := hidn h.1
  go_enter Tryd.func37, Tryd.ntmps37
  go_wp2_with fail
  refine (scan_any a len cap l _ h).mono ?_
  rintro e w1 ⟨rfl, hb1⟩
  rw [hc]
  clear hc
  go_wp2_with fail
  refine (put_any len 2 2 _ (by omega) (by omega)).mono ?_
  rintro e w2 ⟨rfl, hown2, hb2⟩
  have hs1 := hb1.size
  have hs2 := hb2.size
  have hB2 : Below w.heap.size w w2 := hb1.trans (hb2.mono hs1)
  have hlt2 : w1.heap.size < w2.heap.size := own_lt hown2
  obtain ⟨B, hBe⟩ : ∃ B, B = w.heap.size := ⟨_, rfl⟩
  obtain ⟨b, hbe⟩ : ∃ b, b = w2.heap.size := ⟨_, rfl⟩
  obtain ⟨g1, hg1⟩ : ∃ g1, g1 = w1.heap.size := ⟨_, rfl⟩
  rw [← hg1] at hown2 hlt2 ⊢
  have HW : Hid (WI ((w2.alloc (.cells #[.slice (some ⟨g1, 0, none⟩) 2 2, .slice none 0 0, .int .i64 0] 81)).alloc (.cells #[.int .i64 0, .int .u64 0] 50)) B b (encTo l 0)) := hidn (by
    have hz2 : (putB len 2).length = 2 := putB_length 2 len
    refine ⟨by omega, .slice (some ⟨g1, 0, none⟩) 2 2, putB len 2, [], [], none, 0, ?_, ?_, Bs.nil _, ?_, fun _ => rfl⟩
    · rw [hbe, Below.heap_alloc _ _ _ (by simp)]
      exact heap_alloc_new w2 _
    · rw [hz2]
      exact own_mono ((hown2.alloc _).alloc _) (by omega)
    · have hp := putB_pack len 2
      refine ⟨hp.2.1, ⟨rfl, by simp [isB], fun i => by rw [bitAt_out _ _ (by simp)]; rfl⟩, by simp, ?_⟩
      have hb' := hp.bits
      rw [lowBits_length] at hb'
      rw [hz2, hb', List.append_nil, encTo_zero, HLl.out])
  have HA : Hid (((w2.alloc (.cells #[.slice (some ⟨g1, 0, none⟩) 2 2, .slice none 0 0, .int .i64 0] 81)).alloc (.cells #[.int .i64 0, .int .u64 0] 50)).heap[b + 1]? = some (.cells #[.int .i64 0, .int .u64 0] 50 (0, 0))) := hidn (by
    have := heap_alloc_new (w2.alloc (.cells #[.slice (some ⟨g1, 0, none⟩) 2 2, .slice none 0 0, .int .i64 0] 81)) (.cells #[.int .i64 0, .int .u64 0] 50)
    rw [show (w2.alloc (.cells #[.slice (some ⟨g1, 0, none⟩) 2 2, .slice none 0 0, .int .i64 0] 81)).heap.size = b + 1 from by simp [hbe]] at this
    exact this)
  have HL0 : Below B w ((w2.alloc (.cells #[.slice (some ⟨g1, 0, none⟩) 2 2, .slice none 0 0, .int .i64 0] 81)).alloc (.cells #[.int .i64 0, .int .u64 0] 50)) := by
    rw [hBe]
    exact (hB2.alloc (by omega) _).alloc (by simp; omega) _
  have HBE := hidn hBe
  have HG1 := hidn hg1
  have HB0 := hidn hbe
  have hBb : B ≤ b := by omega
  clear hg1 hbe hBe
  go_wp2_with fail
  rw [← HB0.out]
  generalize hW0 : (w2.alloc (.cells #[.slice (some ⟨g1, 0, none⟩) 2 2, .slice none 0 0, .int .i64 0] 81)).alloc (.cells #[.int .i64 0, .int .u64 0] 50) = W0 at *
  clear hW0 HG1 HB0 hown2 hb2 hb1 hs1 hs2 hlt2 hB2
  go_loopw [6, 20] (fun sv iv wr => ∃ (k : Nat) (p q : Int), k ≤ len ∧ iv = .int .i64 (k : Int) ∧ sv = .int .i64 (pstepS l k) ∧ WI wr B b (encTo l k) ∧ wr.heap[b + 1]? = some (.cells #[.int .i64 p, .int .u64 q] 50 (0, 0)) ∧ Hid (p = (aheadS l k).t ∧ q = ((aheadS l k).v : Int)) ∧ Below B w wr) (fun _ iv _ => len - (intOf iv).toNat)
  case atStart => exact ⟨0, 0, 0, Nat.zero_le _, rfl, rfl, HW.out, HA.out, hidn ⟨rfl, rfl⟩, HL0⟩
  case round =>
    obtain ⟨k, p, q, hk, rfl, rfl, hwi, hah, HPQ, hbl⟩ := hrel
    have hBwr : B ≤ wr.heap.size := by have := hbl.size; have := HBE.out; omega
    have hln := encTo_len l k
    by_cases hlt : k < len
    · obtain ⟨sb, off, rfl, hsb, hcl⟩ := h.pos (by omega)
      obtain ⟨c0, c1⟩ := hcl k hlt
      have c0' := (hbl.cell (p := ⟨sb, off + k * 2, none⟩) (by rw [HBE.out]; exact hsb)).trans c0
      have c1' := (hbl.cell (p := ⟨sb, off + k * 2 + 1, none⟩) (by rw [HBE.out]; exact hsb)).trans c1
      obtain ⟨o1, o2, o3⟩ := h.2.2.1 k
      obtain ⟨tk, htk⟩ : ∃ tk, tk = (samD l k).t := ⟨_, rfl⟩
      obtain ⟨vk, hvk⟩ : ∃ vk, vk = (samD l k).v := ⟨_, rfl⟩
      obtain ⟨ps, hps⟩ : ∃ ps, ps = pstepS l k := ⟨_, rfl⟩
      rw [← htk] at c0' o1 o2
      rw [← hvk] at c1' o3
      rw [← hps]
      have hkl : (k : Int) < (len : Int) := by omega
      have hwi1 := hwi.below ((Below.refl _ wr).alloc (Nat.le_refl _) (.cells #[.int .i64 tk, .int .u64 (vk : Int)] 50))
      have hq1 := heap_alloc_new wr (.cells #[.int .i64 tk, .int .u64 (vk : Int)] 50)
      have hblt : b + 1 < wr.heap.size := (Array.getElem?_eq_some_iff.1 hah).1
      have hah1 := (Below.heap_alloc wr (.cells #[.int .i64 tk, .int .u64 (vk : Int)] 50) _ hblt).trans hah
      have hbl1 : Below B w (wr.alloc (.cells #[.int .i64 tk, .int .u64 (vk : Int)] 50)) := hbl.alloc hBwr _
      have hsz1 : (wr.alloc (.cells #[.int .i64 tk, .int .u64 (vk : Int)] 50)).heap.size = wr.heap.size + 1 := by simp
      obtain ⟨sp, hsp⟩ : ∃ sp, sp = wr.heap.size := ⟨_, rfl⟩
      rw [← hsp] at hq1 hsz1
      have HSP := hidn hsp
      have HTK := hidn htk
      have HVK := hidn hvk
      have HPS := hidn hps
      have hspb : sp ≠ b := by omega
      have hsBs : B ≤ sp + 1 := by omega
      clear c0 c1 hcl htk hvk hps hsp hwi
      by_cases hk0 : k = 0
      · have hkz : ((k : Int) == 0) = true := by simp; omega
        have HK0 := hidn hk0
        clear hk0
        go_wp2_with fail
        rw [← HSP.out, u64_eq tk]
        refine (wput_any B b _ (u64 tk) 64 _ (by rw [hsz1]; exact hsBs) hwi1 (u64_lt _) (by omega) (by omega)).mono ?_
        rintro e W2 ⟨rfl, hwi2, l2, k2⟩
        have hq2 := k2 _ _ hq1 (fun h => hspb (Option.some.inj h)) (fun c f h => by cases h)
        have hah2 := k2 _ _ hah1 (fun h => by have := Option.some.inj h; omega) (fun c f h => by cases h)
        have d1 : W2.cell? ⟨sp, 1, none⟩ = some (.int .u64 (vk : Int)) := cell_of_row _ _ _ _ _ _ hq2
        have hs2 := l2.size
        rw [hsz1] at hs2
        go_wp2_with fail
        refine (wput_any B b _ vk 64 _ (by omega) hwi2 o3 (by omega) (by rw [List.length_append, lowBits_length]; omega)).mono ?_
        rintro e W3 ⟨rfl, hwi3, l3, k3⟩
        have hq3 := k3 _ _ hq2 (fun h => hspb (Option.some.inj h)) (fun c f h => by cases h)
        have hah3 := k3 _ _ hah2 (fun h => by have := Option.some.inj h; omega) (fun c f h => by cases h)
        have e0 : W3.cell? ⟨sp, 0, none⟩ = some (.int .i64 tk) := cell_of_row _ _ _ _ _ _ hq3
        have e1 : W3.cell? ⟨sp, 1, none⟩ = some (.int .u64 (vk : Int)) := cell_of_row _ _ _ _ _ _ hq3
        have g0 : W3.frozen? ⟨b + 1, 0, none⟩ = false := unfrozen_of_block hah3 _
        have g2 : W3.frozen? ⟨b + 1, 1, none⟩ = false := unfrozen_of_block hah3 _
        have y0 : W3.cell? ⟨b + 1, 0, none⟩ = some (.int .i64 p) := cell_of_row _ _ _ _ _ _ hah3
        have y1 : W3.cell? ⟨b + 1, 1, none⟩ = some (.int .u64 q) := cell_of_row _ _ _ _ _ _ hah3
        have hfin := hidn (enc_end (p' := tk) (q' := (vk : Int)) (by omega) hwi3 hah3 ((hbl1.trans l2).trans l3))
        have HE : Hid (encTo l k ++ lowBits (u64 tk) 64 ++ lowBits vk 64 = encTo l (k + 1)) := hidn (by
          rw [encTo_succ, HK0.out, HTK.out, HVK.out, HK0.out, List.append_assoc]; rfl)
        rw [HE.out] at hfin
        clear hwi1 hwi2 hwi3 k2 k3 l2 l3 hq1 hq2 hah1 hah2 hah3 hq3
        go_wp2_with fail
        refine ⟨⟨k + 1, tk, (vk : Int), by omega, by go_num, by rw [HPS.out, HK0.out]; rfl, hfin.out.1, hfin.out.2.1, hidn ⟨HTK.out, by rw [HVK.out]; rfl⟩, hfin.out.2.2⟩, by simp [intOf]; omega⟩
      · have hkz : ((k : Int) == 0) = false := by simp; omega
        obtain ⟨j, hj⟩ : ∃ j, k = j + 1 := ⟨k - 1, by omega⟩
        have HJ := hidn hj
        obtain ⟨hp1, hp2⟩ := HPQ.out
        have ov := (h.2.2.1 j).2.2
        obtain ⟨qn, hqn⟩ : ∃ qn : Nat, qn = (samD l j).v := ⟨_, rfl⟩
        have hqq : q = (qn : Int) := by rw [hp2, hj, hqn]; rfl
        rw [← hqn] at ov
        subst hqq
        have HQN := hidn hqn
        have HP1 : Hid (p = (samD l j).t) := hidn (by rw [hp1, hj]; rfl)
        clear hk0 hj hp1 hp2 hqn HPQ
        have z0 : (wr.alloc (.cells #[.int .i64 tk, .int .u64 (vk : Int)] 50)).cell? ⟨b + 1, 0, none⟩ = some (.int .i64 p) := cell_of_row _ _ _ _ _ _ hah1
        have x0 : wr.cell? ⟨b + 1, 0, none⟩ = some (.int .i64 p) := cell_of_row _ _ _ _ _ _ hah
        clear z0
        have hbw1 : Below w.heap.size w (wr.alloc (.cells #[.int .i64 tk, .int .u64 (vk : Int)] 50)) := by rw [← HBE.out]; exact hbl1
        have hxor : bits BinOp.xor IntKind.u64 (vk : Int) (qn : Int) = ((vk ^^^ qn : Nat) : Int) := bits_xor_u .u64 rfl _ _ o3 ov
        have hxl : vk ^^^ qn < 18446744073709551616 := Nat.xor_lt_two_pow (n := 64) o3 ov
        obtain ⟨xn, hxn⟩ : ∃ xn, xn = vk ^^^ qn := ⟨_, rfl⟩
        rw [← hxn] at hxor hxl
        have HXN := hidn hxn
        clear hxn
        go_wp2_with fail
        obtain ⟨df, hdf⟩ : ∃ df, df = wrap64 (tk - p) := ⟨_, rfl⟩
        rw [← HSP.out, ← hdf]
        have HDF := hidn hdf
        clear hdf
        refine (wputInt_any B b _ (wrap64 (df - ps)) _ (by rw [hsz1]; exact hsBs) hwi1 (by omega) (hT.below hbw1)).mono ?_
        rintro e W2 ⟨rfl, hwi2, l2, k2⟩
        have hq2 := k2 _ _ hq1 (fun h => hspb (Option.some.inj h)) (fun c f h => by cases h)
        have hah2 := k2 _ _ hah1 (fun h => by have := Option.some.inj h; omega) (fun c f h => by cases h)
        have d1 : W2.cell? ⟨sp, 1, none⟩ = some (.int .u64 (vk : Int)) := cell_of_row _ _ _ _ _ _ hq2
        have d2 : W2.cell? ⟨b + 1, 1, none⟩ = some (.int .u64 (qn : Int)) := cell_of_row _ _ _ _ _ _ hah2
        have hs2 := l2.size
        rw [hsz1] at hs2
        have hbw2 : Below w.heap.size w W2 := by rw [← HBE.out]; exact hbl1.trans l2
        have hil := intBits_len (wrap64 (df - ps))
        go_wp2_with fail
        refine (putTurned_any B b xn _ _ (by omega) hwi2 (by rw [List.length_append]; omega) hxl (hD.below hbw2)).mono ?_
        rintro e W3 ⟨rfl, hwi3, l3, k3⟩
        have hq3 := k3 _ _ hq2 (fun h => hspb (Option.some.inj h)) (fun c f h => by cases h)
        have hah3 := k3 _ _ hah2 (fun h => by have := Option.some.inj h; omega) (fun c f h => by cases h)
        have e0 : W3.cell? ⟨sp, 0, none⟩ = some (.int .i64 tk) := cell_of_row _ _ _ _ _ _ hq3
        have e1 : W3.cell? ⟨sp, 1, none⟩ = some (.int .u64 (vk : Int)) := cell_of_row _ _ _ _ _ _ hq3
        have g0 : W3.frozen? ⟨b + 1, 0, none⟩ = false := unfrozen_of_block hah3 _
        have g2 : W3.frozen? ⟨b + 1, 1, none⟩ = false := unfrozen_of_block hah3 _
        have y0 : W3.cell? ⟨b + 1, 0, none⟩ = some (.int .i64 p) := cell_of_row _ _ _ _ _ _ hah3
        have y1 : W3.cell? ⟨b + 1, 1, none⟩ = some (.int .u64 (qn : Int)) := cell_of_row _ _ _ _ _ _ hah3
        have hfin := hidn (enc_end (p' := tk) (q' := (vk : Int)) (by omega) hwi3 hah3 ((hbl1.trans l2).trans l3))
        have HST : Hid (df = stepS l k) := hidn (by rw [HDF.out, HP1.out, HTK.out, HJ.out]; rfl)
        have HE : Hid (encTo l k ++ intBits (wrap64 (df - ps)) ++ turned xn = encTo l (k + 1)) := hidn (by
          have e1 : encOne l k = intBits (wrap64 (stepS l k - pstepS l k)) ++ turned ((samD l k).v ^^^ (samD l j).v) := by rw [HJ.out]; rfl
          rw [encTo_succ, e1, ← HST.out, ← HPS.out, ← HVK.out, ← HQN.out, ← HXN.out, List.append_assoc])
        rw [HE.out] at hfin
        clear hwi1 hwi2 hwi3 k2 k3 l2 l3 hq1 hq2 hah1 hah2 hah3 hq3
        go_wp2_with fail
        refine ⟨⟨k + 1, tk, (vk : Int), by omega, by go_num, by rw [HST.out]; rfl, hfin.out.1, hfin.out.2.1, hidn ⟨HTK.out, by rw [HVK.out]; rfl⟩, hfin.out.2.2⟩, by simp [intOf]; omega⟩
    · have HE : Hid (encTo l k = encS l) := hidn (by unfold encS; rw [HLl.out, show k = len from by omega])
      have hl8 : 8 ≤ (encTo l k).length := by
        have : ∀ m, 16 ≤ (encTo l m).length := by
          intro m
          induction m with
          | zero => simp [encTo, lowBits_length]
          | succ m ih => simp only [encTo, List.length_append]; omega
        have := this k
        omega
      have hke : ¬ (k : Int) < (len : Int) := by omega
      go_wp2_with fail
      refine (wbytes_any B b _ _ hBwr hwi (by omega) hl8).mono ?_
      rintro e w9 ⟨v, zs, rfl, hpk, hown, hb9⟩
      rw [HE.out] at hpk
      have HF : Hid (IsPack zs (encS l) ∧ w9.ownsRow w.heap.size 5 1 v zs.length (vb zs) ∧ Below w.heap.size w w9) := hidn ⟨hpk, by rw [← HBE.out]; exact hown, by rw [← HBE.out]; exact hbl.trans hb9⟩
      clear hpk hown hb9
      go_wp2_with fail
      go_ret2
      exact ⟨v, zs, rfl, HF.out⟩
end Go.Proofs.YtfgfkifdokeefaaDoor.Cd
