/- tomb.putNumber; tomb.Encode at what awake writes; awake. -/
import Derived.Test.YtdgkjiiegmnjfaaTmD
import Derived.Test.YtdgkjiiegmnjfaaPutWalk
namespace Go.Proofs.Ytdgkjiiegmnjfaa
open Go.RowKit Go.Joins
set_option linter.unusedVariables false
theorem uwrapT (x : Int) : ∃ u : Nat, IntKind.u64.wrap x = (u : Int) ∧ u < 18446744073709551616 := by
  refine ⟨(IntKind.u64.wrap x).toNat, ?_, ?_⟩ <;> rw [IntKind.wrap_u64] <;> omega
def OwnB (w : World) (B n : Nat) (v : Value) : Prop := ∃ xs, w.ownsRow B 5 1 v n xs
def PutP (w : World) (B n : Nat) (row : Option Nat) (e : Ending) (w' : World) : Prop := ∃ v, e = .returned v ∧ OwnB w' B n v ∧ Below B w w' ∧ ∀ k, k < w.heap.size → some k ≠ row → w'.heap[k]? = w.heap[k]?
theorem row_ne {w : World} {B n g t : Nat} {v : Value} {cs : Array Value} (h : OwnB w B n v) (hg : w.heap[g]? = some (.cells cs t (0, 0))) (ht : t ≠ 5) : some g ≠ v.ownBlock := by
  obtain ⟨xs, h⟩ := h
  intro e
  rcases h.2 with ⟨h1, _⟩ | ⟨g', cap', cur', h1, _, h2, _⟩
  · rw [h1] at e; cases e
  · rw [h1] at e
    simp [Value.ownBlock] at e
    rw [← e, hg] at h2
    simp at h2
    exact ht h2.2
theorem tvb_one (zs : List Nat) : ∀ u ∈ vb zs, u.oneCell' = true := by
  intro u hu
  unfold vb at hu
  obtain ⟨x, _, rfl⟩ := List.mem_map.1 hu
  rfl
set_option maxHeartbeats 1000000 in
set_option maxRecDepth 100000 in
theorem putNumber_any (B n : Nat) (v : Value) (x : Int) (k : Nat) (w : World) (h : OwnB w B n v) (hn : n ≤ 1000000) (hB : B ≤ w.heap.size) (hk : k ≤ 8) :
    Calls Try.prog 24 #[v, .int .i64 x, .int .i64 k] w (PutP w B (n + k) v.ownBlock) := by
  obtain ⟨i0, hi, hz0, hz1, hz2⟩ := info_parts Try.info5
  obtain ⟨xs, ho⟩ := h
  obtain ⟨va, vc, rfl⟩ := own_slice ho
  obtain ⟨u, hu, hu2⟩ := uwrapT x
  have HU := hidn hu
  clear hu
  go_enter Try.func24, Try.ntmps24
  go_wp2_with fail
  rw [HU.out]
  refine (put_any u k k w hu2 (.inr (.inl ⟨by omega, by omega, rfl⟩))).mono ?_
  rintro e w1 ⟨rfl, own1, b1⟩
  have ho1 := own_skip ho b1
  have HS : Hid (B ≤ w1.heap.size) := hidn (Nat.le_trans hB b1.size)
  have H1 := hidn (tvb_one (putB u k))
  have HC := hidn (own1.cells (g := w.heap.size) rfl)
  have HL := hidn own1.1
  go_wp2_with (at_builtin; refine wpList_append_own _ rfl _ _ 41 rfl B 5 i0 (.int .u8 0) 1 1 Try.underlying41 hi hz0 hz1 hz2 rfl (by decide) _ n xs rfl ho1 ⟨w.heap.size, 0, none⟩ k k (vb (putB u k)) rfl HL.out HC.out H1.out (by unfold maxLen; omega) (by omega) HS.out ?_)
  intro v' w2 own2 hgrow2 _
  have HO : Hid (OwnB w2 B (n + k) v') := hidn ⟨_, own2⟩
  have B2 : Below B w w2 := (b1.mono hB).grown hgrow2 HS.out (fun j hj => (ho1.lt j hj).1)
  have HK : Hid (∀ k, k < w.heap.size → some k ≠ (Value.slice va n vc).ownBlock → w2.heap[k]? = w.heap[k]?) := hidn (fun k h1 h2 => (hgrow2.block k (Nat.lt_of_lt_of_le h1 b1.size) h2).trans (b1.block k h1))
  clear own1 ho1 HC HL H1 ho own2 hgrow2
  go_wp2_with fail
  exact bodyPost_ret (v := v') (by simp [results, Try.results24, go_sem]) rfl ⟨_, rfl, HO.out, B2, HK.out⟩
def EncP (w : World) (e : Ending) (w' : World) : Prop := ∃ g c, e = .returned (.tuple #[.slice (some ⟨g, 0, none⟩) 1 c, .int .i64 0]) ∧ w'.cell? ⟨g, 0, none⟩ = some (.int .u8 0) ∧ Below w.heap.size w w'
set_option maxHeartbeats 1000000 in
set_option maxRecDepth 100000 in
theorem matEncode_nil (a : Option Addr) (cap : Nat) (w : World) :
    Calls Try.prog 25 #[.slice a 0 cap] w (EncP w) := by
  have HC := hidn (canM_any a 0 cap [] w ⟨rfl, Nat.zero_le _, fun _ => rfl, (fun m hm => by cases hm), fun x _ j m hm => by simp at hm⟩)
  have hc : canL [] = true := rfl
  go_enter Try.func25, Try.ntmps25
  go_wp2_with fail
  refine HC.out.mono ?_
  rintro e w1 ⟨rfl, b1⟩
  rw [hc]
  have own1 : (w1.alloc (.cells #[.int .u8 0] 5)).ownsRow w.heap.size 5 1 (.slice (some ⟨w1.heap.size, 0, none⟩) 1 1) 1 [.int .u8 0] := World.ownsRow_lit (base := w.heap.size) w1 #[.int .u8 0] 1 b1.size (by decide) rfl
  have B1 := b1.alloc b1.size (.cells #[.int .u8 0] 5)
  have HO := hidn own1
  have HB := hidn B1
  clear own1 B1
  go_wp2_with fail
  go_loopw [4, 16] (fun bv iv wr => bv = .slice (some ⟨w1.heap.size, 0, none⟩) 1 1 ∧ iv = .int .i64 0 ∧ Hid (w1.alloc (.cells #[.int .u8 0] 5) = wr)) (fun _ _ _ => 0)
  case atStart => exact ⟨rfl, rfl, hidn rfl⟩
  case round =>
    obtain ⟨rfl, rfl, hwx⟩ := hrel
    have hwx2 := hwx.out
    subst hwx2
    clear hwx
    go_wp2_with fail
    exact bodyPost_ret (v := .tuple #[.slice (some ⟨w1.heap.size, 0, none⟩) 1 1, .int .i64 0]) (by simp [results, Try.results25, go_sem]) rfl ⟨_, _, rfl, HO.out.cells (g := w1.heap.size) rfl 0 _ rfl, HB.out⟩
set_option maxHeartbeats 2000000 in
set_option maxRecDepth 100000 in
theorem putDeletes_aw (b off cap cap' : Nat) (x y z : Int) (ma : Option Addr) (w : World) (hq : b < w.heap.size) (c0 : w.cell? ⟨b, off, none⟩ = some (.slice ma 0 cap')) (c1 : w.cell? ⟨b, off + 1, none⟩ = some (.int .i64 x)) (c2 : w.cell? ⟨b, off + 2, none⟩ = some (.int .i64 y)) (c3 : w.cell? ⟨b, off + 3, none⟩ = some (.int .i64 z)) :
    Calls Try.prog 21 #[.slice none 0 0, .slice (some ⟨b, off, none⟩) 1 cap] w (PutP w w.heap.size 29 none) := by
  obtain ⟨i0, hi, hz0, hz1, hz2⟩ := info_parts Try.info5
  have HN := fun (n : Nat) (v : Value) (x : Int) (k : Nat) (w1 : World) (h : OwnB w1 w.heap.size n v) (h1 : n ≤ 1000000) (h2 : w.heap.size ≤ w1.heap.size) (h3 : k ≤ 8) => putNumber_any w.heap.size n v x k w1 h h1 h2 h3
  have HC := hidn (HN 0 (.slice none 0 0) 1 4 w ⟨[], World.ownsRow_nil _ _ _ _⟩ (by decide) (Nat.le_refl _) (by decide))
  go_enter Try.func21, Try.ntmps21
  go_wp2_with fail
  refine HC.out.mono ?_
  rintro e w1 ⟨v1, rfl, o1, b1, _⟩
  obtain ⟨xs1, ho1⟩ := o1
  obtain ⟨a1, k1, rfl⟩ := own_slice ho1
  have HO1 := hidn ho1
  clear ho1
  go_wp2_with fail
  go_loopw [0, 15] (fun bv iv wr => ∃ k : Nat, k ≤ 1 ∧ iv = .int .i64 (k : Int) ∧ Hid (OwnB wr w.heap.size (4 + 25 * k) bv) ∧ Below w.heap.size w wr) (fun _ iv _ => 1 - (intOf iv).toNat)
  case atStart => exact ⟨0, by omega, rfl, hidn ⟨_, HO1.out⟩, b1⟩
  case round =>
    obtain ⟨k, hk, rfl, hO, hb⟩ := hrel
    by_cases hlt : k < 1
    · obtain rfl : k = 0 := by omega
      obtain ⟨xs0, ho0⟩ := hO.out
      have e0 := (hb.cell (p := ⟨b, off, none⟩) hq).trans c0
      have e1 := (hb.cell (p := ⟨b, off + 1, none⟩) hq).trans c1
      have e2 := (hb.cell (p := ⟨b, off + 2, none⟩) hq).trans c2
      have e3 := (hb.cell (p := ⟨b, off + 3, none⟩) hq).trans c3
      obtain ⟨a0, k0, rfl⟩ := own_slice ho0
      obtain ⟨wA, hwA⟩ : ∃ wA, wA = wr.alloc (.cells #[.slice ma 0 cap', .int .i64 x, .int .i64 y, .int .i64 z] 34) := ⟨_, rfl⟩
      have bA : Below wr.heap.size wr wA := by rw [hwA]; exact (Below.refl _ wr).alloc (Nat.le_refl _) _
      have qA : wA.heap[wr.heap.size]? = some (.cells #[.slice ma 0 cap', .int .i64 x, .int .i64 y, .int .i64 z] 34 (0, 0)) := by rw [hwA]; exact heap_alloc_new wr _
      have BA := hb.trans (bA.mono hb.size)
      have HE := hidn (matEncode_nil ma cap' wA)
      have HOA := hidn (own_skip ho0 bA)
      have HWA := hidn hwA
      have hz : ((0 : Nat) : Int) = 0 := rfl
      rw [hz]
      clear hwA hO ho0 c0 c1 c2 c3
      go_wp2_with fail
      rw [← HWA.out]
      refine HE.out.mono ?_
      rintro e w2 ⟨g, c, rfl, o2, b2⟩
      have B2 := BA.trans (b2.mono BA.size)
      have q2 := (b2.block _ (Array.getElem?_eq_some_iff.1 qA).1).trans qA
      have own2 := own_skip HOA.out b2
      go_wp2_with (at_builtin; refine wpList_append_own _ rfl _ _ 41 rfl w.heap.size 5 i0 (.int .u8 0) 1 1 Try.underlying41 hi hz0 hz1 hz2 rfl (by decide) _ 4 xs0 rfl own2 ⟨g, 0, none⟩ 1 c [.int .u8 0] rfl rfl ?c1 (by intro u hu; simp at hu; subst hu; rfl) (by decide) (by decide) B2.size ?_)
      case c1 =>
        intro j u hj
        match j, hj with
        | 0, hj => simp at hj; subst hj; simpa [Addr.add] using o2
      intro v3 w3 own3 hgrow3 _
      have B3 : Below w.heap.size w w3 := B2.grown hgrow3 B2.size (fun j hj => (own2.lt j hj).1)
      have q3 := (hgrow3.block wr.heap.size (Array.getElem?_eq_some_iff.1 q2).1 (row_ne ⟨_, own2⟩ q2 (by decide))).trans q2
      have f1 : w3.cell? ⟨wr.heap.size, 1, none⟩ = some (.int .i64 x) := cell_of_row _ _ _ _ _ _ q3
      have HN3 := hidn (HN 5 v3 x 8 w3 ⟨_, own3⟩ (by decide) B3.size (by decide))
      have n3 := row_ne ⟨_, own3⟩ q3 (by decide)
      obtain ⟨a3, c3, rfl⟩ := own_slice own3
      clear own2 hgrow3 own3
      go_wp2_with fail
      refine HN3.out.mono ?_
      rintro e w4 ⟨v4, rfl, o4, b4, hk4⟩
      have q4 := (hk4 _ (Array.getElem?_eq_some_iff.1 q3).1 n3).trans q3
      have B4 := B3.trans b4
      have f2 : w4.cell? ⟨wr.heap.size, 2, none⟩ = some (.int .i64 y) := cell_of_row _ _ _ _ _ _ q4
      have HN4 := hidn (HN 13 v4 y 8 w4 o4 (by decide) B4.size (by decide))
      have n4 := row_ne o4 q4 (by decide)
      obtain ⟨xs4, o4⟩ := o4
      obtain ⟨a4, c4, rfl⟩ := own_slice o4
      clear o4 hk4 b4 n3 q3 q2
      go_wp2_with fail
      refine HN4.out.mono ?_
      rintro e w5 ⟨v5, rfl, o5, b5, hk5⟩
      have q5 := (hk5 _ (Array.getElem?_eq_some_iff.1 q4).1 n4).trans q4
      have B5 := B4.trans b5
      have f3 : w5.cell? ⟨wr.heap.size, 3, none⟩ = some (.int .i64 z) := cell_of_row _ _ _ _ _ _ q5
      have HN5 := hidn (HN 21 v5 z 8 w5 o5 (by decide) B5.size (by decide))
      obtain ⟨xs5, o5⟩ := o5
      obtain ⟨a5, c5, rfl⟩ := own_slice o5
      clear o5 hk5 b5 n4 q4
      go_wp2_with fail
      refine HN5.out.mono ?_
      rintro e w6 ⟨v6, rfl, o6, b6, _⟩
      have B6 := B5.trans b6
      have O6 := hidn o6
      clear o6 b6
      go_wp2_with fail
      exact ⟨⟨1, Nat.le_refl _, by simp, O6, B6⟩, by simp [intOf]⟩
    · obtain rfl : k = 1 := by omega
      have hz : ((1 : Nat) : Int) = 1 := rfl
      rw [hz]
      have HK : Hid (∀ k, k < w.heap.size → some k ≠ none → wr.heap[k]? = w.heap[k]?) := hidn (fun k h1 _ => hb.block k h1)
      go_wp2_with fail
      exact bodyPost_ret (v := u0) (by simp [results, Try.results21, go_sem]) rfl ⟨_, rfl, hO.out, hb, HK.out⟩
set_option maxHeartbeats 2000000 in
set_option maxRecDepth 100000 in
theorem putLedger_nil (B n : Nat) (v : Value) (w : World) (h : OwnB w B n v) (hn : n ≤ 1000000) (hB : B ≤ w.heap.size) :
    Calls Try.prog 20 #[v, .slice none 0 0] w (PutP w B (n + 4) v.ownBlock) := by
  have HC := hidn (putNumber_any B n v 0 4 w h hn hB (by decide))
  generalize v.ownBlock = row at *
  obtain ⟨xs, ho⟩ := h
  obtain ⟨va, vc, rfl⟩ := own_slice ho
  clear ho
  go_enter Try.func20, Try.ntmps20
  go_wp2_with fail
  refine HC.out.mono ?_
  rintro e w1 ⟨v1, rfl, o1, b1, k1⟩
  have O1 := hidn o1
  have K1 := hidn k1
  clear o1 k1
  go_wp2_with fail
  go_loopw [0, 13] (fun bv iv wr => bv = v1 ∧ iv = .int .i64 0 ∧ Hid (w1 = wr)) (fun _ _ _ => 0)
  case atStart => exact ⟨rfl, rfl, hidn rfl⟩
  case round =>
    obtain ⟨rfl, rfl, hwx⟩ := hrel
    have hwx2 := hwx.out
    subst hwx2
    clear hwx
    go_wp2_with fail
    exact bodyPost_ret (v := u0) (by simp [results, Try.results20, go_sem]) rfl ⟨_, rfl, O1.out, b1, K1.out⟩
set_option maxHeartbeats 2000000 in
set_option maxRecDepth 100000 in
theorem tombCan_aw (b off cap : Nat) (x y : Int) (w : World) (hq : b < w.heap.size) (c0 : w.cell? ⟨b, off, none⟩ = some (.slice none 0 0)) (c1 : w.cell? ⟨b, off + 1, none⟩ = some (.int .i64 x)) (c2 : w.cell? ⟨b, off + 2, none⟩ = some (.int .i64 y)) (c3 : w.cell? ⟨b, off + 3, none⟩ = some (.int .i64 3)) :
    Calls Try.prog 18 #[.slice (some ⟨b, off, none⟩) 1 cap] w fun e w' => e = .returned (.bool true) ∧ Below w.heap.size w w' := by
  have hc : canL [] = true := rfl
  have HC := fun (w1 : World) => canM_any none 0 0 [] w1 ⟨rfl, Nat.zero_le _, fun _ => rfl, (fun m hm => by cases hm), fun x _ j m hm => by simp at hm⟩
  go_enter Try.func18, Try.ntmps18
  go_wp2_with fail
  go_loopw [10] (fun iv wr => ∃ k : Nat, k ≤ 1 ∧ iv = .int .i64 (k : Int) ∧ Below w.heap.size w wr) (fun iv _ => 1 - (intOf iv).toNat)
  case atStart => exact ⟨0, by omega, rfl, Below.refl _ _⟩
  case round =>
    obtain ⟨k, hk, rfl, hb⟩ := hrel
    by_cases hlt : k < 1
    · obtain rfl : k = 0 := by omega
      have e0 := (hb.cell (p := ⟨b, off, none⟩) hq).trans c0
      have e1 := (hb.cell (p := ⟨b, off + 1, none⟩) hq).trans c1
      have e2 := (hb.cell (p := ⟨b, off + 2, none⟩) hq).trans c2
      have e3 := (hb.cell (p := ⟨b, off + 3, none⟩) hq).trans c3
      have BA := hb.trans (((Below.refl _ wr).alloc (Nat.le_refl _) (.cells #[.slice none 0 0, .int .i64 x, .int .i64 y, .int .i64 3] 34)).mono hb.size)
      have hz : ((0 : Nat) : Int) = 0 := rfl
      rw [hz]
      clear c0 c1 c2 c3
      go_wp2_with fail
      refine (HC _).mono ?_
      rintro e w2 ⟨rfl, b2⟩
      rw [hc]
      have B2 := BA.trans (b2.mono BA.size)
      go_wp2_with fail
      exact ⟨⟨1, Nat.le_refl _, by simp, B2⟩, by simp [intOf]⟩
    · obtain rfl : k = 1 := by omega
      have hz : ((1 : Nat) : Int) = 1 := rfl
      rw [hz]
      go_wp2_with fail
      exact bodyPost_ret (v := .bool true) (by simp [results, Try.results18, go_sem]) rfl ⟨rfl, hb⟩
set_option maxHeartbeats 2000000 in
set_option maxRecDepth 100000 in
theorem canLedger_nil (w : World) :
    Calls Try.prog 19 #[.slice none 0 0] w fun e w' => e = .returned (.bool true) ∧ w' = w := by
  go_enter Try.func19, Try.ntmps19
  go_wp2_with fail
  go_loopw [10] (fun iv wr => iv = .int .i64 0 ∧ Hid (w = wr)) (fun _ _ => 0)
  case atStart => exact ⟨rfl, hidn rfl⟩
  case round =>
    obtain ⟨rfl, hwx⟩ := hrel
    have hwx2 := hwx.out
    subst hwx2
    go_wp2_with fail
    exact bodyPost_ret (v := .bool true) (by simp [results, Try.results19, go_sem]) rfl ⟨rfl, rfl⟩
def EncW (w : World) (e : Ending) (w' : World) : Prop := ∃ a c, e = .returned (.tuple #[.slice a 33 c, .int .i64 0]) ∧ Below w.heap.size w w'
set_option maxHeartbeats 2000000 in
set_option maxRecDepth 100000 in
theorem tombEncode_aw (b off cap : Nat) (x y : Int) (w : World) (hq : b < w.heap.size) (c0 : w.cell? ⟨b, off, none⟩ = some (.slice none 0 0)) (c1 : w.cell? ⟨b, off + 1, none⟩ = some (.int .i64 x)) (c2 : w.cell? ⟨b, off + 2, none⟩ = some (.int .i64 y)) (c3 : w.cell? ⟨b, off + 3, none⟩ = some (.int .i64 3)) :
    Calls Try.prog 16 #[.slice (some ⟨b, off, none⟩) 1 cap, .slice none 0 0] w (EncW w) := by
  have HC := hidn (tombCan_aw b off cap x y w hq c0 c1 c2 c3)
  go_enter Try.func16, Try.ntmps16
  go_wp2_with fail
  refine HC.out.mono ?_
  rintro e w1 ⟨rfl, b1⟩
  have d0 := (b1.cell (p := ⟨b, off, none⟩) hq).trans c0
  have d1 := (b1.cell (p := ⟨b, off + 1, none⟩) hq).trans c1
  have d2 := (b1.cell (p := ⟨b, off + 2, none⟩) hq).trans c2
  have d3 := (b1.cell (p := ⟨b, off + 3, none⟩) hq).trans c3
  have HP := hidn (putDeletes_aw b off cap 0 x y 3 none w1 (Nat.lt_of_lt_of_le hq b1.size) d0 d1 d2 d3)
  go_wp2_with fail
  refine (canLedger_nil w1).mono ?_
  rintro e w1' ⟨rfl, rfl⟩
  go_wp2_with fail
  refine HP.out.mono ?_
  rintro e w2 ⟨v2, rfl, o2, b2, _⟩
  have B2 := b1.trans (b2.mono b1.size)
  have HQ := hidn (putLedger_nil w1'.heap.size 29 v2 w2 o2 (by decide) b2.size)
  obtain ⟨xs2, ho2⟩ := o2
  obtain ⟨a2, k2, rfl⟩ := own_slice ho2
  clear ho2
  go_wp2_with fail
  refine HQ.out.mono ?_
  rintro e w3 ⟨v3, rfl, o3, b3, _⟩
  have B3 := B2.trans (b3.mono b1.size)
  obtain ⟨xs3, ho3⟩ := o3
  obtain ⟨a3, k3, rfl⟩ := own_slice ho3
  clear ho3
  go_wp2_with fail
  exact bodyPost_ret (v := .tuple #[.slice a3 33 k3, .int .i64 0]) (by simp [results, Try.results16, go_sem]) rfl ⟨_, _, rfl, B3⟩
theorem hitsAw (b cap : Nat) (r : Int) (w : World) (h : w.heap[b]? = some (.cells #[.slice none 0 0, .int .i64 1, .int .i64 5, .int .i64 3] 34 (0, 0))) :
    Calls Try.prog 9 #[.slice (some ⟨b, 0, none⟩) 1 cap, .slice none 0 0, .int .i64 5, .int .i64 r] w fun e w' => e = .returned (.bool (decide (r ≤ 3))) ∧ Below w.heap.size w w' := by
  have hD : Dls w (some ⟨b, 0, none⟩) 1 [⟨none, 0, 0, [], 1, 5, 3⟩] := by
    refine ⟨rfl, by decide, (fun h => by cases h), fun d hd => ?_, fun x hx j d hd k v hk => ?_⟩
    · obtain rfl := List.mem_singleton.1 hd
      exact ⟨⟨rfl, Nat.zero_le _, fun _ => rfl, (fun m hm => by cases hm), fun x _ j m hm => by simp at hm⟩, by decide⟩
    · cases hx
      match j, hd with
      | 0, hd =>
        simp at hd
        subst hd
        rw [xadd_none, cell_of_row _ _ _ _ _ _ h]
        simpa [Del.cells] using hk
  have hL : Ls w none 0 [] := Ls.nil w
  refine (hits_any (some ⟨b, 0, none⟩) 1 cap _ none 0 0 [] 5 r w hD hL (by decide) (fun x hx => by cases hx)).mono ?_
  rintro e w' ⟨rfl, bb⟩
  refine ⟨?_, bb⟩
  simp [hitsL, hitD, Del.pl, allM]
set_option maxHeartbeats 2000000 in
set_option maxRecDepth 100000 in
theorem awake14 (w : World) : Calls Try.prog 8 #[] w fun e w' => e = .returned (.bool true) ∧ Below w.heap.size w w' := by
  obtain ⟨w1, hw1⟩ : ∃ w1, w1 = w.alloc (.cells #[.slice none 0 0, .int .i64 1, .int .i64 5, .int .i64 3] 34) := ⟨_, rfl⟩
  have b1 : Below w.heap.size w w1 := by rw [hw1]; exact (Below.refl _ w).alloc (Nat.le_refl _) _
  have q1 : w1.heap[w.heap.size]? = some (.cells #[.slice none 0 0, .int .i64 1, .int .i64 5, .int .i64 3] 34 (0, 0)) := by rw [hw1]; exact heap_alloc_new w _
  have HE := hidn (tombEncode_aw w.heap.size 0 1 1 5 w1 (Array.getElem?_eq_some_iff.1 q1).1 (cell_of_row _ _ _ _ _ _ q1) (cell_of_row _ _ _ _ _ _ q1) (cell_of_row _ _ _ _ _ _ q1) (cell_of_row _ _ _ _ _ _ q1))
  have HW := hidn hw1
  clear hw1
  go_enter Try.func8, Try.ntmps8
  go_wp2_with fail
  rw [← HW.out]
  refine HE.out.mono ?_
  rintro e w2 ⟨a2, c2, rfl, b2⟩
  have q2 := (b2.block _ (Array.getElem?_eq_some_iff.1 q1).1).trans q1
  have B2 := b1.trans (b2.mono b1.size)
  have HH := hidn (hitsAw w.heap.size 1 3 w2 q2)
  go_wp2_with fail
  refine HH.out.mono ?_
  rintro e w3 ⟨rfl, b3⟩
  have q3 := (b3.block _ (Array.getElem?_eq_some_iff.1 q2).1).trans q2
  have B3 := B2.trans (b3.mono B2.size)
  have HG := hidn (hitsAw w.heap.size 1 4 w3 q3)
  have d3 : decide ((3 : Int) ≤ 3) = true := rfl
  have d4 : decide ((4 : Int) ≤ 3) = false := rfl
  rw [d3]
  go_wp2_with fail
  refine HG.out.mono ?_
  rintro e w4 ⟨rfl, b4⟩
  rw [d4]
  have B4 := B3.trans (b4.mono B3.size)
  go_wp2_with fail
  exact bodyPost_ret (v := .bool true) (by simp [results, Try.results8, go_sem]) rfl ⟨rfl, B4⟩
end Go.Proofs.Ytdgkjiiegmnjfaa
