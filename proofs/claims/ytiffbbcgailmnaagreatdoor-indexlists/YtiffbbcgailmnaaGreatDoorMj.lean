/- dryrotlaw13.awake: the index of a stream of one chunk. -/
import Derived.Test.YtiffbbcgailmnaaGreatDoorMi
import Derived.Test.YtiffbbcgailmnaaGreatDoorAppA
namespace Go.Proofs.YtiffbbcgailmnaaGreatDoor
open Go.RowKit Go.Joins
open Cd (Sam Sm canS samD SamOK BitsTab DbTab SamsOK)
set_option linter.unusedVariables false

theorem enInfo : ∃ i0 z, Tryz.prog.info? 48 = some i0 ∧ i0.zero = some z ∧ i0.size = 5 ∧ i0.bytes = 56 ∧ z.cells.size = 5 := by
  have h : (Tryz.prog.info? 48).map (fun i => (i.zero, i.size, i.bytes)) = some (some (.agg #[.slice none 0 0, .int .i64 0, .int .i64 0, .int .i64 0, .int .i64 0]), 5, 56) := by kernel_rfl
  cases hi : Tryz.prog.info? 48 with
  | none => rw [hi] at h; cases h
  | some i0 =>
    rw [hi] at h
    simp only [Option.map_some, Option.some.injEq, Prod.mk.injEq] at h
    exact ⟨i0, _, rfl, h.1, h.2.1, h.2.2, rfl⟩

theorem ixOwn_skip {w w' : World} {base e size n : Nat} {v : Value} {xs : List Value} (h : w.ownsRow base e size v n xs) (hb : Below w.heap.size w w') : w'.ownsRow base e size v n xs := by
  obtain ⟨hl, h1⟩ := h
  refine ⟨hl, ?_⟩
  rcases h1 with h1 | ⟨g, cap, cur, hv, hg, hh, r⟩
  · exact .inl h1
  · exact .inr ⟨g, cap, cur, hv, hg, (hb.block g (Array.getElem?_eq_some_iff.1 hh).1).trans hh, r⟩

def enC (la : Option Addr) (ll lc : Nat) (at' n mn mx : Int) : List Value := [.slice la ll lc, .int .i64 at', .int .i64 n, .int .i64 mn, .int .i64 mx]

set_option maxHeartbeats 1000000 in
theorem ixStand (la : Option Addr) (ll lc : Nat) (ls : List Lab) (at' n mn mx : Int) (w : World) (h : Ls w la ll ls) (hr : ll ≤ 140737488355328) (hok : canOK ls = true) (hmm : mn ≤ mx) (h1 : 1 ≤ n) (h2 : n ≤ 2147483647) :
    Calls Tryz.prog 42 #[.agg #[.slice la ll lc, .int .i64 at', .int .i64 n, .int .i64 mn, .int .i64 mx]] w fun e w' => e = .returned (.bool true) ∧ Below w.heap.size w w' := by
  obtain ⟨wA, hwA⟩ : ∃ wA, wA = w.alloc (.cells #[.slice la ll lc, .int .i64 at', .int .i64 n, .int .i64 mn, .int .i64 mx] 48) := ⟨_, rfl⟩
  have bA : Below w.heap.size w wA := by rw [hwA]; exact (Below.refl _ w).alloc (Nat.le_refl _) _
  have qA : wA.heap[w.heap.size]? = some (.cells #[.slice la ll lc, .int .i64 at', .int .i64 n, .int .i64 mn, .int .i64 mx] 48 (0, 0)) := by rw [hwA]; exact heap_alloc_new w _
  have hAs : w.heap.size < wA.heap.size := (Array.getElem?_eq_some_iff.1 qA).1
  have HC := hidn (can_any la ll lc ls wA (h.below bA) hr)
  rw [hok] at HC
  have HWA := hidn hwA
  have HQ := hidn qA
  have HBA := hidn bA
  clear h hok hwA qA bA
  go_enter Tryz.func42, Tryz.ntmps42
  go_wp2_with fail
  rw [← HWA.out]
  refine HC.out.mono ?_
  rintro e w1 ⟨rfl, b1⟩
  have q1 := (b1.block _ hAs).trans HQ.out
  have c2 : w1.cell? ⟨w.heap.size, 2, none⟩ = some (.int .i64 n) := cell_of_row _ _ _ _ _ _ q1
  have c3 : w1.cell? ⟨w.heap.size, 3, none⟩ = some (.int .i64 mn) := cell_of_row _ _ _ _ _ _ q1
  have c4 : w1.cell? ⟨w.heap.size, 4, none⟩ = some (.int .i64 mx) := cell_of_row _ _ _ _ _ _ q1
  have HB1 := hidn (HBA.out.trans (b1.mono HBA.out.size))
  clear q1 b1
  go_wp2_with fail
  go_ret
  exact ⟨rfl, HB1.out⟩

set_option maxHeartbeats 2000000 in
set_option maxRecDepth 100000 in
theorem ixCan_one (g c : Nat) (la : Option Addr) (ll lc : Nat) (ls : List Lab) (n mn mx : Int) (w : World) (h : Ls w la ll ls) (hr : ll ≤ 140737488355328) (hok : canOK ls = true) (hmm : mn ≤ mx) (h1 : 1 ≤ n) (h2 : n ≤ 2147483647)
    (hq : ∀ k v, (enC la ll lc 0 n mn mx)[k]? = some v → w.cell? ⟨g, k, none⟩ = some v) :
    Calls Tryz.prog 30 #[.slice (some ⟨g, 0, none⟩) 1 c] w fun e w' => e = .returned (.bool true) ∧ Below w.heap.size w w' := by
  have x0 := hq 0 _ rfl
  have x1 := hq 1 _ rfl
  have x2 := hq 2 _ rfl
  have x3 := hq 3 _ rfl
  have x4 := hq 4 _ rfl
  have hgs : g < w.heap.size := block_lt_of_cell x0
  have HL := hidn h
  clear hq h
  go_enter Tryz.func30, Tryz.ntmps30
  go_wp2_with fail
  go_loopw [3, 11] (fun av iv wr => ∃ (k : Nat) (x : Int), k ≤ 1 ∧ iv = .int .i64 (k : Int) ∧ av = .int .i64 x ∧ Hid (k = 0 → x = 0) ∧ Below w.heap.size w wr) (fun _ iv _ => 1 - (intOf iv).toNat)
  case atStart => exact ⟨0, 0, Nat.zero_le _, rfl, rfl, hidn (fun _ => rfl), Below.refl _ _⟩
  case round =>
    obtain ⟨k, x, hk, rfl, rfl, HX, hb⟩ := hrel
    by_cases hlt : k = 0
    · have hx0 := HX.out hlt
      subst hlt
      subst hx0
      have y0 := (hb.cell (p := ⟨g, 0, none⟩) hgs).trans x0
      have y1 := (hb.cell (p := ⟨g, 1, none⟩) hgs).trans x1
      have y2 := (hb.cell (p := ⟨g, 2, none⟩) hgs).trans x2
      have y3 := (hb.cell (p := ⟨g, 3, none⟩) hgs).trans x3
      have y4 := (hb.cell (p := ⟨g, 4, none⟩) hgs).trans x4
      obtain ⟨wA, hwA⟩ : ∃ wA, wA = wr.alloc (.cells #[.slice la ll lc, .int .i64 0, .int .i64 n, .int .i64 mn, .int .i64 mx] 48) := ⟨_, rfl⟩
      have bA : Below wr.heap.size wr wA := by rw [hwA]; exact (Below.refl _ wr).alloc (Nat.le_refl _) _
      have qA : wA.heap[wr.heap.size]? = some (.cells #[.slice la ll lc, .int .i64 0, .int .i64 n, .int .i64 mn, .int .i64 mx] 48 (0, 0)) := by rw [hwA]; exact heap_alloc_new wr _
      have hAs : wr.heap.size < wA.heap.size := (Array.getElem?_eq_some_iff.1 qA).1
      have BA := hb.trans (bA.mono hb.size)
      have HST := hidn (ixStand la ll lc ls 0 n mn mx wA (HL.out.below BA) hr hok hmm h1 h2)
      have HWA := hidn hwA
      have HQ := hidn qA
      have HBA := hidn BA
      clear hwA qA bA BA x0 x1 x2 x3 x4
      simp only [show ((0 : Nat) : Int) = 0 from rfl]
      go_wp2_with fail
      rw [← HWA.out]
      refine HST.out.mono ?_
      rintro e w1 ⟨rfl, b1⟩
      have q1 := (b1.block _ hAs).trans HQ.out
      have c1 : w1.cell? ⟨wr.heap.size, 1, none⟩ = some (.int .i64 0) := cell_of_row _ _ _ _ _ _ q1
      have c2 : w1.cell? ⟨wr.heap.size, 2, none⟩ = some (.int .i64 n) := cell_of_row _ _ _ _ _ _ q1
      have HB1 := hidn (HBA.out.trans (b1.mono HBA.out.size))
      have HD := hidn HB1.out.drew
      clear q1 b1 HST
      go_wp2_with fail
      go_region
      go_wp2_with fail
      exact ⟨⟨1, _, Nat.le_refl _, rfl, rfl, hidn (fun e => by cases e), HD.out⟩, by simp [intOf]⟩
    · have hk1 : k = 1 := by omega
      subst hk1
      have HB := hidn hb
      simp only [show ((1 : Nat) : Int) = 1 from rfl]
      go_wp2_with fail
      go_ret
      exact ⟨rfl, HB.out⟩

end Go.Proofs.YtiffbbcgailmnaaGreatDoor

namespace Go.Proofs.YtiffbbcgailmnaaGreatDoor
open Go.RowKit Go.Joins
open Cd (Sam Sm canS encS samD SamOK IsPack BitsTab DbTab SamsOK vsm)
set_option linter.unusedVariables false

def BldP (w : World) (e : Ending) (w' : World) : Prop := ∃ b c, e = .returned (.tuple #[.slice (some ⟨b, 0, none⟩) 1 c, .int .i64 0]) ∧ w'.cell? ⟨b, 4, none⟩ = some (.int .i64 1) ∧ Below w.heap.size w w'

set_option maxHeartbeats 4000000 in
set_option maxRecDepth 100000 in
theorem build_one (a : Option Addr) (len cap : Nat) (zs : List Nat) (w : World) (hB : Bs w a len zs) (hlen : len ≤ 2000000) (hTk : TkOK zs awLab awSam len) (hT : BitsTab w) :
    Calls Tryz.prog 19 #[.slice a len cap] w (BldP w) := by
  obtain ⟨i0, z0, hi, hz0, hz1, hz2, hzc⟩ := enInfo
  have h4z : 4 ≤ zs.length := hTk.1
  have HZL := hidn hB.1
  have HO := hidn (open_any a len cap zs 0 w hB (by omega))
  have HTK := hidn hTk
  have HT := hidn hT
  have hl4 : 4 ≤ len := by rw [← HZL.out]; exact h4z
  clear hB hTk h4z hT
  go_enter Tryz.func19, Tryz.ntmps19
  go_wp2_with fail
  refine HO.out.mono ?_
  clear HO
  rintro e w5 ⟨g, a5, c5, rfl, hcur, hg, hab, b5⟩
  have HB5 := hidn b5
  have HT5 := hidn (HT.out.below b5)
  rw [HZL.out, show atZ 0 = 0 from rfl] at hcur
  have HCU := hidn hcur
  have hgs : w.heap.size ≤ g := hg
  clear hab b5 hcur hg
  go_wp2_with fail
  go_loopw [5] (fun lv wr => (lv = .slice none 0 0 ∧ wr = w5) ∨ (∃ (v : Value) (s : Ser) (n : Nat) (ca : Option Addr) (cc : Nat), lv = v ∧ Hid (n = len ∧ s.ls = awLab ∧ s.ok wr) ∧ Hid (wr.ownsRow w5.heap.size 48 5 v 1 (enC s.la s.ll s.lc 0 (n : Int) 1 1)) ∧ Hid (Cur wr g ca 0 cc [] (n : Int) 0) ∧ Hid (Below w.heap.size w wr))) (fun lv _ => match lv with | .slice _ m _ => 1 - m | _ => 0)
  case atStart => exact .inl ⟨rfl, rfl⟩
  case round =>
    rcases hrel with ⟨rfl, rfl⟩ | ⟨v, s, n, ca, cc, rfl, HS, HO, HC, HB⟩
    · obtain ⟨b6, o6, rfl, _, _⟩ := HCU.out.2.1.pos (by omega)
      have HN := hidn (next_any g b6 o6 len c5 zs 0 0 wr HCU.out (by omega) (cur_ne HCU.out (by omega)) HT5.out)
      go_wp2_with fail
      refine HN.out.mono ?_
      clear HN
      rintro e w6 ⟨hgr, hcase⟩
      have B6 : Below w.heap.size w w6 := HB5.out.grown hgr HB5.out.size (fun k hk => by cases hk; exact hgs)
      rcases hcase with ⟨s, n, ca, cc, hok, rfl, hsok, hc6⟩ | ⟨hno, _⟩
      · obtain ⟨e1, e2, e3⟩ := hok.same HTK.out
        obtain ⟨la, ll, lc, ls, sa, sl, sc, sm⟩ := s
        simp only at e1 e2 hsok hc6 ⊢
        obtain rfl : sl = 1 := by
          have := hsok.2.2.1.1
          simp only at this
          rw [e2] at this
          exact this.symm
        subst e1
        subst e2
        subst e3
        rw [show (samD awSam 0).t = 1 from rfl]
        rw [show wrap64 (0 + (n : Int)) = (n : Int) from by rw [Int.zero_add]; exact IntWalk.wrap64_in _ ⟨by omega, by omega⟩] at hc6
        rw [HZL.out, Nat.sub_self, List.drop_eq_nil_of_le (by rw [HZL.out]; exact Nat.le_refl _)] at hc6
        obtain ⟨wE, hwE⟩ : ∃ wE, wE = w6.alloc (.cells #[.slice la ll lc, .int .i64 0, .int .i64 (n : Int), .int .i64 1, .int .i64 1] 48) := ⟨_, rfl⟩
        have bE : Below w6.heap.size w6 wE := by rw [hwE]; exact (Below.refl _ w6).alloc (Nat.le_refl _) _
        have qE : wE.heap[w6.heap.size]? = some (.cells #[.slice la ll lc, .int .i64 0, .int .i64 (n : Int), .int .i64 1, .int .i64 1] 48 (0, 0)) := by rw [hwE]; exact heap_alloc_new w6 _
        obtain ⟨wB, hwB⟩ : ∃ wB, wB = wE.alloc (.cells #[.slice la ll lc, .int .i64 0, .int .i64 (n : Int), .int .i64 1, .int .i64 1] 48) := ⟨_, rfl⟩
        have bB : Below wE.heap.size wE wB := by rw [hwB]; exact (Below.refl _ wE).alloc (Nat.le_refl _) _
        have qB : wB.heap[wE.heap.size]? = some (.cells #[.slice la ll lc, .int .i64 0, .int .i64 (n : Int), .int .i64 1, .int .i64 1] 48 (0, 0)) := by rw [hwB]; exact heap_alloc_new wE _
        have b6B := bE.trans (bB.mono bE.size)
        have s56 : wr.heap.size ≤ wB.heap.size := Nat.le_trans hgr.size b6B.size
        obtain ⟨v3, w3, hrun, hown3, hgr3⟩ := appAny wB wr.heap.size 44 44 48 i0 z0 5 56 Tryz.underlying44 hi hz0 hz1 hz2 hzc (by decide) (.slice none 0 0) 0 [] (World.ownsRow_nil _ _ _ _) s56 (some ⟨wE.heap.size, 0, none⟩) 1 1 (enC la ll lc 0 (n : Int) 1 1) rfl (fun e => by cases e) (fun x hx j u hu => by
          cases hx
          rw [ladd_none, Nat.zero_add, cell_of_row _ _ _ _ _ _ qB]
          simpa [enC] using hu) (fun u hu => by
          simp [enC] at hu
          rcases hu with rfl | rfl | rfl | rfl <;> rfl) (by unfold maxLen; omega) (by omega)
        have b63 : Below w6.heap.size w6 w3 := b6B.grown hgr3 b6B.size (fun k hk => by cases hk)
        have HB3 : Hid (Below w.heap.size w w3) := hidn (B6.trans (b63.mono B6.size))
        have HO3 : Hid (w3.ownsRow wr.heap.size 48 5 v3 1 (enC la ll lc 0 (n : Int) 1 1)) := hidn hown3
        have hgl : g < w6.heap.size := (Array.getElem?_eq_some_iff.1 hc6.1).1
        have HC3 : Hid (Cur w3 g ca 0 cc [] (n : Int) 0) := hidn ⟨(b63.block g hgl).trans hc6.1, hc6.2.1.below b63, hc6.2.2⟩
        have HS3 : Hid (n = n ∧ (⟨la, ll, lc, awLab, sa, 1, sc, awSam⟩ : Ser).ls = awLab ∧ (⟨la, ll, lc, awLab, sa, 1, sc, awSam⟩ : Ser).ok w3) := hidn ⟨rfl, rfl, hsok.below b63⟩
        obtain ⟨va3, vc3, hv3⟩ : ∃ va vc, v3 = Value.slice va 1 vc := by
          rcases hown3.2 with ⟨h1, h2⟩ | ⟨g, cp, cur, h1, _⟩
          · cases h2
          · exact ⟨_, _, h1⟩
        subst hv3
        rw [show wE.heap.size = w6.heap.size + 1 from by rw [hwE]; simp] at hrun
        have HRUN := hidn hrun
        have HWB := hidn hwB
        have HWE := hidn hwE
        have HQE := hidn qE
        clear hrun hown3 hgr3 bE bB qB b6B s56 b63 hsok hc6 hgr B6 hok hwB hwE qE
        go_wp2_with (first
          | (at_builtin; rw [← HWE.out, ← HWB.out]; refine wpList_app_runA rfl _ _ 44 44 rfl rfl _ _ _ rfl rfl HRUN.out ?_; clear HRUN))
        go_wp2_with fail
        exact ⟨.inr ⟨_, ⟨la, ll, lc, awLab, sa, 1, sc, awSam⟩, n, ca, cc, rfl, HS3, HO3, HC3, HB3⟩, by simp⟩
      · exact absurd HTK.out (hno _ _ _)
    · have hcell1 : wr.cell? ⟨g, 1, none⟩ = some (.slice ca 0 cc) := by rw [cell_of_row _ _ _ _ _ _ HC.out.1]; rfl
      have HN := hidn (next_none (some ⟨g, 0, none⟩) wr (.inr ⟨g, ca, cc, rfl, hcell1⟩))
      have hgl : g < wr.heap.size := (Array.getElem?_eq_some_iff.1 HC.out.1).1
      unfold zEnt at HN
      clear hcell1
      go_wp2_with fail
      refine HN.out.mono ?_
      clear HN
      rintro e w6 ⟨rfl, b6⟩
      obtain ⟨wE, hwE⟩ : ∃ wE, wE = w6.alloc (.cells #[.slice none 0 0, .int .i64 0, .int .i64 0, .int .i64 0, .int .i64 0] 48) := ⟨_, rfl⟩
      have bE : Below w6.heap.size w6 wE := by rw [hwE]; exact (Below.refl _ w6).alloc (Nat.le_refl _) _
      have b6E := b6.trans (bE.mono b6.size)
      have hq6 := (b6E.block g hgl).trans HC.out.1
      have HER := hidn (err_made g 0 wE (by rw [cell_of_row _ _ _ _ _ _ hq6]; rfl) (by rw [cell_of_row _ _ _ _ _ _ hq6]; rfl))
      have HBE := hidn (HB.out.trans (b6E.mono HB.out.size))
      obtain ⟨g9, c9, hv9, hg9⟩ : ∃ g9 c9, u5 = Value.slice (some ⟨g9, 0, none⟩) 1 c9 ∧ ∀ k x, (enC s.la s.ll s.lc 0 (n : Int) 1 1)[k]? = some x → wr.cell? ⟨g9, k, none⟩ = some x := by
        rcases HO.out.2 with ⟨h1, h2⟩ | ⟨g9, cp, cur, h1, _⟩
        · cases h2
        · exact ⟨g9, cp, h1, fun k x hx => by
            have := HO.out.cells (g := g9) (by rw [h1]; rfl) k x hx
            rw [ladd_none, Nat.zero_add] at this
            exact this⟩
      have HG9 : Hid (∀ k x, (enC s.la s.ll s.lc 0 (n : Int) 1 1)[k]? = some x → wE.cell? ⟨g9, k, none⟩ = some x) := hidn (fun k x hx => (b6E.cell (block_lt_of_cell (hg9 k x hx))).trans (hg9 k x hx))
      have HWE := hidn hwE
      have hn1 : n = len := HS.out.1
      have HCAN := hidn (ixCan_one g9 c9 s.la s.ll s.lc s.ls (n : Int) 1 1 wE (HS.out.2.2.1.below b6E) HS.out.2.2.2.1 (by rw [HS.out.2.1]; exact aw_canOK) (by omega) (by omega) (by omega) HG9.out)
      have hx4 := HG9.out 4 (.int .i64 1) rfl
      have HX4 := hidn hx4
      subst hv9
      clear hg9 hwE bE b6 b6E hq6 hx4 hn1
      go_wp2_with fail
      rw [← HWE.out]
      refine HER.out.mono ?_
      rintro e w7 ⟨rfl, rfl⟩
      go_wp2_with fail
      refine HCAN.out.mono ?_
      rintro e w8 ⟨rfl, b8⟩
      have HB8 := hidn (HBE.out.trans (b8.mono HBE.out.size))
      have HX8 := hidn ((b8.cell (block_lt_of_cell HX4.out)).trans HX4.out)
      clear b8
      go_wp2_with fail
      go_ret2
      exact ⟨_, _, rfl, HX8.out, HB8.out⟩

end Go.Proofs.YtiffbbcgailmnaaGreatDoor

namespace Go.Proofs.YtiffbbcgailmnaaGreatDoor
open Go.RowKit Go.Joins
open Cd (Sam Sm canS encS samD SamOK IsPack BitsTab DbTab SamsOK vsm)
set_option linter.unusedVariables false

set_option maxHeartbeats 4000000 in
set_option maxRecDepth 100000 in
theorem awake13 (w : World) (hT : BitsTab w) (hD : DbTab w) : Calls Tryz.prog 12 #[] w fun e w' => e = .returned (.bool true) ∧ Below w.heap.size w w' := by
  obtain ⟨w1, hw1⟩ : ∃ w1, w1 = w.alloc (.cells #[.string ⟨#[97]⟩, .string ⟨#[120]⟩] 35) := ⟨_, rfl⟩
  obtain ⟨w2, hw2⟩ : ∃ w2, w2 = w1.alloc (.cells #[.int .i64 1, .int .u64 2] 39) := ⟨_, rfl⟩
  obtain ⟨w3, hw3⟩ : ∃ w3, w3 = w2.alloc (.cells #[.slice (some ⟨w.heap.size, 0, none⟩) 1 1, .slice (some ⟨w.heap.size + 1, 0, none⟩) 1 1] 42) := ⟨_, rfl⟩
  have b1 : Below w.heap.size w w1 := by rw [hw1]; exact (Below.refl _ w).alloc (Nat.le_refl _) _
  have b2 : Below w1.heap.size w1 w2 := by rw [hw2]; exact (Below.refl _ w1).alloc (Nat.le_refl _) _
  have b3 : Below w2.heap.size w2 w3 := by rw [hw3]; exact (Below.refl _ w2).alloc (Nat.le_refl _) _
  have s1 : w1.heap.size = w.heap.size + 1 := by rw [hw1]; simp
  have s2 : w2.heap.size = w.heap.size + 2 := by rw [hw2]; simp; omega
  have B2 := b1.trans (b2.mono b1.size)
  have B3 := B2.trans (b3.mono B2.size)
  have q1 : w3.heap[w.heap.size]? = some (.cells #[.string ⟨#[97]⟩, .string ⟨#[120]⟩] 35 (0, 0)) := by
    rw [b3.block _ (by omega), b2.block _ (by omega), hw1]; exact heap_alloc_new w _
  have q2 : w3.heap[w.heap.size + 1]? = some (.cells #[.int .i64 1, .int .u64 2] 39 (0, 0)) := by
    rw [b3.block _ (by omega), hw2, ← s1]; exact heap_alloc_new w1 _
  have q3 : w3.heap[w.heap.size + 2]? = some (.cells #[.slice (some ⟨w.heap.size, 0, none⟩) 1 1, .slice (some ⟨w.heap.size + 1, 0, none⟩) 1 1] 42 (0, 0)) := by
    rw [hw3, ← s2]; exact heap_alloc_new w2 _
  have hS : Srs w3 (some ⟨w.heap.size + 2, 0, none⟩) 1 [awSer w.heap.size] := by
    refine ⟨rfl, by decide, (fun h => by cases h), fun s hs => ?_, fun x hx j s hs k v hk => ?_⟩
    · obtain rfl := List.mem_singleton.1 hs
      exact ⟨aw_ls w3 _ q1, by show 1 ≤ 140737488355328; decide, aw_sm w3 _ q2, by show 1 ≤ 1; decide, by show 1 ≤ maxLen; decide⟩
    · cases hx
      match j, hs with
      | 0, hs =>
        simp at hs
        subst hs
        rw [ladd_none, cell_of_row _ _ _ _ _ _ q3]
        simpa [Ser.cells, awSer] using hk
  have HE := hidn (chEncode_yes (some ⟨w.heap.size + 2, 0, none⟩) 1 1 [awSer w.heap.size] w3 hS (aw_can _) (by rw [aw_partsL]; decide) (hT.below B3) (hD.below B3))
  have HW : Hid (((w.alloc (.cells #[.string ⟨#[97]⟩, .string ⟨#[120]⟩] 35)).alloc (.cells #[.int .i64 1, .int .u64 2] 39)).alloc (.cells #[.slice (some ⟨w.heap.size, 0, none⟩) 1 1, .slice (some ⟨w.heap.size + 1, 0, none⟩) 1 1] 42) = w3) := hidn (by rw [hw3, hw2, hw1])
  clear hw1 hw2 hw3 b1 b2 b3 s1 s2 B2 q1 q2 q3 hS
  go_enter Tryz.func12, Tryz.ntmps12
  go_wp2_with fail
  rw [HW.out]
  refine HE.out.mono ?_
  rintro e w4 ⟨v, zs, rfl, hst, hown, hzl, b4⟩
  rw [aw_partsL] at hzl
  rw [aw_parts] at hst
  obtain ⟨p, r, hp, rfl, hr⟩ := hst
  obtain rfl : r = [] := hr
  rw [List.append_nil] at hown hzl
  have hTk : TkOK (chunkB awLab p) awLab awSam (chunkB awLab p).length := by
    have := TkOK.chunk (r := []) aw_canOK hp aw_canS aw_samsOK (by decide) (by decide)
    rw [List.append_nil] at this
    exact this
  have B4 := B3.trans (b4.mono B3.size)
  obtain ⟨zs, hzs⟩ : ∃ zs, zs = chunkB awLab p := ⟨_, rfl⟩
  rw [← hzs] at hown hzl hTk
  have hz256 : ∀ x ∈ zs, x < 256 := by
    rw [hzs]
    unfold chunkB
    intro x hx
    rcases List.mem_append.1 hx with hx | hx
    · exact putB_lt _ _ x hx
    · rcases List.mem_append.1 hx with hx | hx
      · exact encTo_lt awLab aw_canOK _ (Nat.le_refl _) x hx
      · exact hp.2.1 x hx
  obtain ⟨a4, c4, rfl, hB4, hc4, hcm4, _⟩ := bs_ownC hown hz256 rfl
  obtain ⟨zl, hzle⟩ : ∃ zl, zl = zs.length := ⟨_, rfl⟩
  rw [← hzle] at hB4 hTk hzl ⊢
  have HBL := hidn (build_one a4 zl c4 zs w4 hB4 (by omega) hTk (hT.below B4))
  have HB4 := hidn B4
  clear hown hB4 hz256 hzs hTk hzle hc4 hcm4 hp hzl b4 B4 B3
  go_wp2_with fail
  refine HBL.out.mono ?_
  rintro e w5 ⟨b, c, rfl, hx, b5⟩
  have HB5 := hidn (HB4.out.trans (b5.mono HB4.out.size))
  clear b5
  go_wp2_with fail
  exact bodyPost_ret (v := .bool true) (by simp [results, Tryz.results12, go_sem]) rfl ⟨rfl, HB5.out⟩
end Go.Proofs.YtiffbbcgailmnaaGreatDoor
