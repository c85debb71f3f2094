/- dryrotlaw19.awake: whether a footer may be, and block.Make of one series. -/
import Derived.Test.YtfgfkifdokeefaaDoorMf
import Derived.Test.YtfgfkifdokeefaaDoorInts
import Derived.Laws.ResultCell
import Derived.Laws.AppendOwnNone
import Derived.Laws.CopyOwn
import Derived.Test.YtfgfkifdokeefaaDoorAppK
namespace Go.Proofs.YtfgfkifdokeefaaDoor
open Go.RowKit Go.Joins
open Cd (Sam Sm canS encS samD SamOK IsPack BitsTab DbTab SamsOK vsm)
set_option linter.unusedVariables false

def bkLab : List Lab := [(⟨#[97]⟩, ⟨#[120]⟩)]

def bkSam : List Sam := [⟨4, 2⟩]

def bkSer (b : Nat) : Ser := ⟨some ⟨b, 0, none⟩, 1, 1, bkLab, some ⟨b + 1, 0, none⟩, 1, 1, bkSam⟩

theorem bk_ls (w : World) (b : Nat) (h : w.heap[b]? = some (.cells #[.string ⟨#[97]⟩, .string ⟨#[120]⟩] 47 (0, 0))) : Ls w (some ⟨b, 0, none⟩) 1 bkLab := by
  refine ⟨rfl, by decide, ?_, (fun h => by cases h), ?_⟩
  · intro i
    match i with
    | 0 => exact ⟨by decide, by decide⟩
    | i + 1 => exact ⟨by show (ByteArray.empty).size ≤ _; decide, by show (ByteArray.empty).size ≤ _; decide⟩
  · intro x hx j hj
    cases hx
    obtain rfl : j = 0 := by omega
    rw [ladd_none, ladd_none]
    refine ⟨?_, ?_⟩
    · rw [cell_of_row _ _ _ _ _ _ h]; rfl
    · rw [cell_of_row _ _ _ _ _ _ h]; rfl

theorem bk_samsOK : SamsOK bkSam := by
  intro i
  match i with
  | 0 => exact ⟨by decide, by decide, by decide⟩
  | i + 1 => exact Cd.samOK_zero

theorem bk_sm (w : World) (b : Nat) (h : w.heap[b]? = some (.cells #[.int .i64 4, .int .u64 2] 50 (0, 0))) : Sm w (some ⟨b, 0, none⟩) 1 bkSam := by
  refine ⟨rfl, by decide, bk_samsOK, (fun h => by cases h), ?_⟩
  intro x hx j hj
  cases hx
  obtain rfl : j = 0 := by omega
  rw [ladd_none, ladd_none]
  refine ⟨?_, ?_⟩
  · rw [cell_of_row _ _ _ _ _ _ h]; rfl
  · rw [cell_of_row _ _ _ _ _ _ h]; rfl

theorem bk_can (b : Nat) : canSr ([bkSer b].map Ser.pl) = true := by
  show canSr [(bkLab, bkSam)] = true
  decide +kernel

theorem bk_one (b : Nat) : allParts [bkSer b] = [partAt (bkSer b) 0] := by
  show partsOf (bkSer b) ++ [] = _
  rw [List.append_nil]
  unfold partsOf
  rw [show ((bkSer b).sl + 19) / 20 = 1 from (by show (1 + 19) / 20 = 1; decide)]
  rfl

theorem bk_parts (b : Nat) : (allParts [bkSer b]).map Ser.pl = [(bkLab, bkSam)] := by rw [bk_one]; rfl

theorem bk_partsL (b : Nat) : (allParts [bkSer b]).length = 1 := by rw [bk_one]; rfl

/-- A footer's number. -/
def bN (x : Int) : Bool := decide (1 ≤ x) && decide (x ≤ 4611686018427387904)

def bSp (mn mx by' : Int) : Bool := if by' = 0 then decide (mn = 0) && decide (mx = 0) else decide (mn ≤ mx)

def bPa (ps : List Int) : Bool := ps.all bN && decide (ps.length ≤ 3)

def bCan (n g l r mn mx by' : Int) (ps : List Int) : Bool := bN n && bN g && bN r && decide (1 ≤ l) && decide (l ≤ 3) && decide (0 ≤ by') && decide (by' ≤ 2147483647) && bSp mn mx by' && bPa ps

def bF (n g l r mn mx by' : Int) (a : Option Addr) (len cap : Nat) : Array Value := #[.int .i64 n, .int .i64 g, .int .i64 l, .int .i64 r, .int .i64 mn, .int .i64 mx, .int .i64 by', .slice a len cap]

theorem bNum_any (w : World) (x : Int) : Calls Tryd.prog 20 #[.int .i64 x] w fun e w' => e = .returned (.bool (bN x)) ∧ w' = w := by
  by_cases h1 : 1 ≤ x
  · by_cases h2 : x ≤ 4611686018427387904
    · have e : bN x = true := by simp [bN, h1, h2]
      rw [e]
      clear e
      go_enter Tryd.func20, Tryd.ntmps20
      go_wp2
      go_ret
      exact ⟨rfl, rfl⟩
    · have e : bN x = false := by simp [bN, h2]
      rw [e]
      clear e
      go_enter Tryd.func20, Tryd.ntmps20
      go_wp2
      go_ret
      exact ⟨rfl, rfl⟩
  · have e : bN x = false := by simp [bN, h1]
    rw [e]
    clear e
    go_enter Tryd.func20, Tryd.ntmps20
    go_wp2
    go_ret
    exact ⟨rfl, rfl⟩

theorem bSpan_any (w : World) (n g l r mn mx by' : Int) (a : Option Addr) (len cap : Nat) : Calls Tryd.prog 21 #[.agg #[.int .i64 n, .int .i64 g, .int .i64 l, .int .i64 r, .int .i64 mn, .int .i64 mx, .int .i64 by', .slice a len cap]] w fun e w' => e = .returned (.bool (bSp mn mx by')) ∧ Below w.heap.size w w' := by
  by_cases h0 : by' = 0
  · subst h0
    by_cases h1 : mn = 0
    · subst h1
      by_cases h2 : mx = 0
      · subst h2
        go_enter Tryd.func21, Tryd.ntmps21
        go_wp2
        go_ret
        exact ⟨rfl, (Below.refl _ w).alloc (Nat.le_refl _) _⟩
      · have e : bSp 0 mx 0 = false := by simp [bSp, h2]
        have h3 : (mx == 0) = false := by simpa using h2
        rw [e]
        clear e
        go_enter Tryd.func21, Tryd.ntmps21
        go_wp2
        go_ret
        exact ⟨rfl, (Below.refl _ w).alloc (Nat.le_refl _) _⟩
    · have e : bSp mn mx 0 = false := by simp [bSp, h1]
      have h3 : (mn == 0) = false := by simpa using h1
      rw [e]
      clear e
      go_enter Tryd.func21, Tryd.ntmps21
      go_wp2
      go_ret
      exact ⟨rfl, (Below.refl _ w).alloc (Nat.le_refl _) _⟩
  · have h3 : (by' == 0) = false := by simpa using h0
    by_cases h1 : mn ≤ mx
    · have e : bSp mn mx by' = true := by simp [bSp, h0, h1]
      rw [e]
      clear e
      go_enter Tryd.func21, Tryd.ntmps21
      go_wp2
      go_ret
      exact ⟨rfl, (Below.refl _ w).alloc (Nat.le_refl _) _⟩
    · have e : bSp mn mx by' = false := by simp [bSp, h0, h1]
      rw [e]
      clear e
      go_enter Tryd.func21, Tryd.ntmps21
      go_wp2
      go_ret
      exact ⟨rfl, (Below.refl _ w).alloc (Nat.le_refl _) _⟩

theorem bPa_false {ps : List Int} {k : Nat} {x : Int} (h : ps[k]? = some x) (hx : bN x = false) : bPa ps = false := by
  have h2 : ps.all bN = false := by
    rw [Bool.eq_false_iff]
    intro e
    have := List.all_eq_true.1 e x (List.mem_of_getElem? h)
    rw [hx] at this
    cases this
  simp [bPa, h2]

theorem all_take {ps : List Int} {k : Nat} {x : Int} (h : ps[k]? = some x) (h1 : (ps.take k).all bN = true) (hx : bN x = true) : (ps.take (k + 1)).all bN = true := by
  rw [List.take_add_one, h, List.all_append, h1]
  simp [hx]

theorem bPar_any (w : World) (a : Option Addr) (len cap : Nat) (ps : List Int) (h : Ils w a len ps) : Calls Tryd.prog 22 #[.slice a len cap] w fun e w' => e = .returned (.bool (bPa ps)) ∧ Below w.heap.size w w' := by
  have hlen := hidn h.1
  have hml := h.2.1
  unfold maxLen at hml
  obtain ⟨Z, hZ⟩ : ∃ Z, Z = bPa ps := ⟨_, rfl⟩
  rw [← hZ]
  have HZ := hidn hZ
  clear hZ
  go_enter Tryd.func22, Tryd.ntmps22
  go_wp2_with fail
  go_loopw [7] (fun iv wr => ∃ k : Nat, k ≤ len ∧ iv = .int .i64 (k : Int) ∧ Hid ((ps.take k).all bN = true) ∧ Below w.heap.size w wr) (fun iv _ => len - (intOf iv).toNat)
  case atStart => exact ⟨0, Nat.zero_le _, rfl, hidn rfl, Below.refl _ _⟩
  case round =>
    obtain ⟨k, hk, rfl, hO, hb⟩ := hrel
    by_cases hlt : k < len
    · have hlt2 : (k : Int) < (len : Int) := by omega
      obtain ⟨d, hd⟩ : ∃ d, ps[k]? = some d := ⟨_, List.getElem?_eq_getElem (by rw [hlen.out]; exact hlt)⟩
      obtain ⟨b, off, rfl, c0⟩ := (h.below hb).at hd
      have HD := hidn hd
      clear hd
      go_wp2_with fail
      refine (bNum_any _ d).mono ?_
      rintro e w1 ⟨rfl, rfl⟩
      cases hx : bN d with
      | false =>
        have HZ2 : Hid (Z = false) := hidn (by rw [HZ.out]; exact bPa_false HD.out hx)
        clear hx
        go_wp2_with fail
        exact bodyPost_ret (v := .bool false) (by simp [results, Tryd.results22, go_sem]) rfl ⟨by rw [HZ2.out], hb⟩
      | true =>
        have HK2 := hidn (all_take HD.out hO.out hx)
        clear hx
        go_wp2_with fail
        exact ⟨⟨k + 1, by omega, by simp, HK2, hb⟩, by simp [intOf]; omega⟩
    · have hlt2 : ¬ (k : Int) < (len : Int) := by omega
      have HA : Hid (ps.all bN = true) := hidn (by
        have e : k = ps.length := by rw [hlen.out]; omega
        have q := hO.out
        rwa [e, List.take_length] at q)
      by_cases h3 : len ≤ 3
      · have h3i : (len : Int) ≤ 3 := by omega
        have HZ2 : Hid (Z = true) := hidn (by rw [HZ.out, bPa, HA.out, hlen.out]; simp [h3])
        go_wp2_with fail
        exact bodyPost_ret (v := .bool true) (by simp [results, Tryd.results22, go_sem]) rfl ⟨by rw [HZ2.out], hb⟩
      · have h3i : ¬ (len : Int) ≤ 3 := by omega
        have HZ2 : Hid (Z = false) := hidn (by rw [HZ.out, bPa, hlen.out]; simp [h3])
        go_wp2_with fail
        exact bodyPost_ret (v := .bool false) (by simp [results, Tryd.results22, go_sem]) rfl ⟨by rw [HZ2.out], hb⟩

set_option maxHeartbeats 2000000 in
set_option maxRecDepth 100000 in
theorem bCan_any (w : World) (n g l r mn mx by' : Int) (a : Option Addr) (len cap : Nat) (ps : List Int) (h : Ils w a len ps) : Calls Tryd.prog 11 #[.agg #[.int .i64 n, .int .i64 g, .int .i64 l, .int .i64 r, .int .i64 mn, .int .i64 mx, .int .i64 by', .slice a len cap]] w fun e w' => e = .returned (.bool (bCan n g l r mn mx by' ps)) ∧ Below w.heap.size w w' := by
  obtain ⟨Z, hZ⟩ : ∃ Z, Z = bCan n g l r mn mx by' ps := ⟨_, rfl⟩
  rw [← hZ]
  have HZ := hidn hZ
  clear hZ
  obtain ⟨wA, hwA⟩ : ∃ wA, wA = w.alloc (.cells #[.int .i64 n, .int .i64 g, .int .i64 l, .int .i64 r, .int .i64 mn, .int .i64 mx, .int .i64 by', .slice a len cap] 24) := ⟨_, rfl⟩
  have bA : Below w.heap.size w wA := by rw [hwA]; exact (Below.refl _ w).alloc (Nat.le_refl _) _
  have qA : wA.heap[w.heap.size]? = some (.cells #[.int .i64 n, .int .i64 g, .int .i64 l, .int .i64 r, .int .i64 mn, .int .i64 mx, .int .i64 by', .slice a len cap] 24 (0, 0)) := by rw [hwA]; exact heap_alloc_new w _
  have hAs : w.heap.size < wA.heap.size := (Array.getElem?_eq_some_iff.1 qA).1
  have HWA := hidn hwA
  clear hwA
  go_enter Tryd.func11, Tryd.ntmps11
  go_wp2_with fail
  refine (bNum_any _ n).mono ?_
  rintro e whn ⟨rfl, rfl⟩
  cases hn : bN n with
  | false =>
    have HZ2 : Hid (Z = false) := hidn (by rw [HZ.out]; simp [bCan, hn])
    clear hn
    go_wp2_with fail
    exact bodyPost_ret (v := .bool false) (by simp [results, Tryd.results11, go_sem]) rfl ⟨by rw [HZ2.out], (by first | exact bA | (rw [HWA.out] at bA; exact bA) | (have q := bA; rw [HWA.out] at q; exact q))⟩
  | true =>
    go_wp2_with fail
    refine (bNum_any _ g).mono ?_
    rintro e whg ⟨rfl, rfl⟩
    cases hg : bN g with
    | false =>
      have HZ2 : Hid (Z = false) := hidn (by rw [HZ.out]; simp [bCan, hn, hg])
      clear hn hg
      go_wp2_with fail
      exact bodyPost_ret (v := .bool false) (by simp [results, Tryd.results11, go_sem]) rfl ⟨by rw [HZ2.out], (by first | exact bA | (rw [HWA.out] at bA; exact bA) | (have q := bA; rw [HWA.out] at q; exact q))⟩
    | true =>
      go_wp2_with fail
      refine (bNum_any _ r).mono ?_
      rintro e whr ⟨rfl, rfl⟩
      cases hr : bN r with
      | false =>
        have HZ2 : Hid (Z = false) := hidn (by rw [HZ.out]; simp [bCan, hn, hg, hr])
        clear hn hg hr
        go_wp2_with fail
        exact bodyPost_ret (v := .bool false) (by simp [results, Tryd.results11, go_sem]) rfl ⟨by rw [HZ2.out], (by first | exact bA | (rw [HWA.out] at bA; exact bA) | (have q := bA; rw [HWA.out] at q; exact q))⟩
      | true =>
        by_cases c1 : 1 ≤ l
        rotate_left
        · have HZ2 : Hid (Z = false) := hidn (by rw [HZ.out]; simp [bCan, hn, hg, hr, c1])
          go_wp2_with fail
          exact bodyPost_ret (v := .bool false) (by simp [results, Tryd.results11, go_sem]) rfl ⟨by rw [HZ2.out], (by first | exact bA | (have q := bA; rw [HWA.out] at q; exact q))⟩
        by_cases c2 : l ≤ 3
        rotate_left
        · have HZ2 : Hid (Z = false) := hidn (by rw [HZ.out]; simp [bCan, hn, hg, hr, c1, c2])
          go_wp2_with fail
          exact bodyPost_ret (v := .bool false) (by simp [results, Tryd.results11, go_sem]) rfl ⟨by rw [HZ2.out], (by first | exact bA | (have q := bA; rw [HWA.out] at q; exact q))⟩
        by_cases c3 : 0 ≤ by'
        rotate_left
        · have HZ2 : Hid (Z = false) := hidn (by rw [HZ.out]; simp [bCan, hn, hg, hr, c1, c2, c3])
          go_wp2_with fail
          exact bodyPost_ret (v := .bool false) (by simp [results, Tryd.results11, go_sem]) rfl ⟨by rw [HZ2.out], (by first | exact bA | (have q := bA; rw [HWA.out] at q; exact q))⟩
        by_cases c4 : by' ≤ 2147483647
        rotate_left
        · have HZ2 : Hid (Z = false) := hidn (by rw [HZ.out]; simp [bCan, hn, hg, hr, c1, c2, c3, c4])
          go_wp2_with fail
          exact bodyPost_ret (v := .bool false) (by simp [results, Tryd.results11, go_sem]) rfl ⟨by rw [HZ2.out], (by first | exact bA | (have q := bA; rw [HWA.out] at q; exact q))⟩
        have e7 : wA.cell? ⟨w.heap.size, 7, none⟩ = some (.slice a len cap) := cell_of_row _ _ _ _ _ _ qA
        have HS := hidn (bSpan_any wA n g l r mn mx by' a len cap)
        go_wp2_with fail
        rw [← HWA.out]
        refine HS.out.mono ?_
        rintro e w1 ⟨rfl, b1⟩
        have f7 : w1.cell? ⟨w.heap.size, 7, none⟩ = some (.slice a len cap) := (b1.cell hAs).trans e7
        have B1 := bA.trans (b1.mono bA.size)
        clear qA e7
        cases hs : bSp mn mx by' with
        | false =>
          have HZ2 : Hid (Z = false) := hidn (by rw [HZ.out]; simp [bCan, hn, hg, hr, c1, c2, c3, c4, hs])
          clear hs
          go_wp2_with fail
          exact bodyPost_ret (v := .bool false) (by simp [results, Tryd.results11, go_sem]) rfl ⟨by rw [HZ2.out], B1⟩
        | true =>
          have HZ2 : Hid (Z = bPa ps) := hidn (by rw [HZ.out]; simp [bCan, hn, hg, hr, c1, c2, c3, c4, hs])
          clear hs
          have HP := hidn (bPar_any w1 a len cap ps (h.below B1))
          go_wp2_with fail
          refine HP.out.mono ?_
          rintro e w2 ⟨rfl, b2⟩
          have B2 := B1.trans (b2.mono B1.size)
          obtain ⟨bz, hbz⟩ : ∃ bz, bz = bPa ps := ⟨_, rfl⟩
          rw [← hbz]
          have HZ3 : Hid (Z = bz) := hidn (by rw [HZ2.out, hbz])
          clear hbz
          go_wp2_with fail
          exact bodyPost_ret (v := .bool bz) (by simp [results, Tryd.results11, go_sem]) rfl ⟨by rw [HZ3.out], B2⟩

end Go.Proofs.YtfgfkifdokeefaaDoor

namespace Go.Proofs.YtfgfkifdokeefaaDoor
open Go.RowKit Go.Joins
open Cd (Sam Sm canS encS samD SamOK IsPack BitsTab DbTab SamsOK vsm)
set_option linter.unusedVariables false

/-- One series in memory. -/
structure Bk1 (w : World) (b : Nat) : Prop where
  q1 : w.heap[b]? = some (.cells #[.string ⟨#[97]⟩, .string ⟨#[120]⟩] 47 (0, 0))
  q2 : w.heap[b + 1]? = some (.cells #[.int .i64 4, .int .u64 2] 50 (0, 0))
  q3 : w.heap[b + 2]? = some (.cells #[.slice (some ⟨b, 0, none⟩) 1 1, .slice (some ⟨b + 1, 0, none⟩) 1 1] 53 (0, 0))

theorem Bk1.below {w w' : World} {b : Nat} (h : Bk1 w b) (hb : Below w.heap.size w w') : Bk1 w' b :=
  ⟨(hb.block _ (Array.getElem?_eq_some_iff.1 h.q1).1).trans h.q1, (hb.block _ (Array.getElem?_eq_some_iff.1 h.q2).1).trans h.q2, (hb.block _ (Array.getElem?_eq_some_iff.1 h.q3).1).trans h.q3⟩

theorem Bk1.srs {w : World} {b : Nat} (h : Bk1 w b) : Srs w (some ⟨b + 2, 0, none⟩) 1 [bkSer b] := by
  refine ⟨rfl, by decide, (fun h => by cases h), fun s hs => ?_, fun x hx j s hs k v hk => ?_⟩
  · obtain rfl := List.mem_singleton.1 hs
    exact ⟨bk_ls w _ h.q1, by show 1 ≤ 140737488355328; decide, bk_sm w _ h.q2, by show 1 ≤ 1; decide, by show 1 ≤ maxLen; decide⟩
  · cases hx
    match j, hs with
    | 0, hs =>
      simp at hs
      subst hs
      rw [ladd_none, cell_of_row _ _ _ _ _ _ h.q3]
      simpa [Ser.cells, bkSer] using hk

set_option maxHeartbeats 1000000 in
set_option maxRecDepth 100000 in
theorem span1 (w : World) (b : Nat) (h : Bk1 w b) : Calls Tryd.prog 28 #[.slice (some ⟨b + 2, 0, none⟩) 1 1] w fun e w' => e = .returned (.tuple #[.int .i64 4, .int .i64 4]) ∧ Below w.heap.size w w' := by
  obtain ⟨c, hc⟩ : ∃ c, c = b + 2 := ⟨_, rfl⟩
  obtain ⟨s, hs⟩ : ∃ s, s = b + 1 := ⟨_, rfl⟩
  have hq2 := h.q2
  have hq3 := h.q3
  rw [← hc, ← hs] at hq3
  rw [← hs] at hq2
  rw [← hc]
  clear hc hs h
  have HQ2 := hidn hq2
  have HQ3 := hidn hq3
  clear hq2 hq3
  go_enter Tryd.func28, Tryd.ntmps28
  go_wp2_with fail
  go_loopw [2, 3, 10] (fun x y iv wr => ∃ k : Nat, k ≤ 1 ∧ iv = .int .i64 (k : Int) ∧ Hid (k = 1 → x = .int .i64 4 ∧ y = .int .i64 4) ∧ Hid (k = 0 → x = .int .i64 0 ∧ y = .int .i64 0) ∧ Below w.heap.size w wr) (fun _ _ iv _ => 1 - (intOf iv).toNat)
  case atStart => exact ⟨0, by omega, rfl, hidn (fun h => by cases h), hidn (fun _ => ⟨rfl, rfl⟩), Below.refl _ _⟩
  case round =>
    obtain ⟨k, hk, rfl, hA, hB, hb⟩ := hrel
    by_cases hk0 : k = 0
    · subst hk0
      obtain ⟨rfl, rfl⟩ := hB.out rfl
      clear hA hB
      have p3 := (hb.block c (Array.getElem?_eq_some_iff.1 HQ3.out).1).trans HQ3.out
      have p2 := (hb.block s (Array.getElem?_eq_some_iff.1 HQ2.out).1).trans HQ2.out
      have a0 : wr.cell? ⟨c, 0, none⟩ = some (.slice (some ⟨b, 0, none⟩) 1 1) := cell_of_row _ _ _ _ _ _ p3
      have a1 : wr.cell? ⟨c, 1, none⟩ = some (.slice (some ⟨s, 0, none⟩) 1 1) := cell_of_row _ _ _ _ _ _ p3
      have ls := (Array.getElem?_eq_some_iff.1 p2).1
      have d0 : (wr.alloc (.cells #[.slice (some ⟨b, 0, none⟩) 1 1, .slice (some ⟨s, 0, none⟩) 1 1] 53)).cell? ⟨s, 0, none⟩ = some (.int .i64 4) := by
        rw [cell_of_row _ _ _ _ _ _ ((Below.heap_alloc _ _ _ ls).trans p2)]; rfl
      have hB2 : Below w.heap.size w (wr.alloc (.cells #[.slice (some ⟨b, 0, none⟩) 1 1, .slice (some ⟨s, 0, none⟩) 1 1] 53)) := hb.alloc hb.size _
      have HB2 := hidn hB2.drew
      clear p3 p2 hB2
      go_wp2_with fail
      go_region
      go_wp2_with fail
      exact ⟨⟨1, by omega, by simp, hidn (fun _ => ⟨rfl, rfl⟩), hidn (fun h => by cases h), HB2.out⟩, by simp [intOf]⟩
    · obtain rfl : k = 1 := by omega
      obtain ⟨rfl, rfl⟩ := hA.out rfl
      clear hA hB hk0
      go_wp2_with fail
      go_ret2
      exact ⟨rfl, hb⟩

theorem bk_rowtmp {P : Program} {fn : Func} {p u : Tmp} {ty : TypeId} (h : fn.results = #[.cell p ty, .tmp u]) (tmps : Array Value) (w : World) (g : Nat) (t : TypeId) (cs : Array Value) (fr : Nat × Nat) (d : TypeDesc)
    (hp : tmps.getD p undef = .pointer (some ⟨g, 0, none⟩)) (hg : w.heap[g]? = some (.cells cs t fr))
    (hu : P.underlying ty = some d) (hd : (match d with | .struct _ | .array _ _ => true | _ => false) = true) (hi : (P.info? ty).map (·.size) = some cs.size) (x : Value) (hx : tmps.getD u undef = x) :
    (results fn tmps).run P w = .ok (.tuple #[.agg cs, x]) w := by
  rw [results_cell_tmp h, hp, hx]
  simp [asAddr, run_loadVar_row w g t ty cs fr d hg hu hd hi]

theorem bk_set4 {w : World} {y : Nat} {a b c d e f g h : Value} {t : TypeId} (H : w.heap[y]? = some (.cells #[a, b, c, d, e, f, g, h] t (0, 0))) (v : Value) : (w.setCell ⟨y, 4, none⟩ v).heap[y]? = some (.cells #[a, b, c, d, v, f, g, h] t (0, 0)) := by
  rw [setCell_eq_setRow _ _ _ _ _ _ _ H]
  exact setRow_heap _ _ _ _ _ _ H

theorem bk_set5 {w : World} {y : Nat} {a b c d e f g h : Value} {t : TypeId} (H : w.heap[y]? = some (.cells #[a, b, c, d, e, f, g, h] t (0, 0))) (v : Value) : (w.setCell ⟨y, 5, none⟩ v).heap[y]? = some (.cells #[a, b, c, d, e, v, g, h] t (0, 0)) := by
  rw [setCell_eq_setRow _ _ _ _ _ _ _ H]
  exact setRow_heap _ _ _ _ _ _ H

theorem bkInfo : ∃ i0 z, Tryd.prog.info? 3 = some i0 ∧ i0.zero = some z ∧ i0.size = 1 ∧ i0.bytes = 8 ∧ z.cells.size = 1 := by
  have h : (Tryd.prog.info? 3).map (fun i => (i.zero, i.size, i.bytes)) = some (some (.int .i64 0), 1, 8) := by kernel_rfl
  cases hi : Tryd.prog.info? 3 with
  | none => rw [hi] at h; cases h
  | some i0 =>
    rw [hi] at h
    simp only [Option.map_some, Option.some.injEq, Prod.mk.injEq] at h
    exact ⟨i0, _, rfl, h.1, h.2.1, h.2.2, rfl⟩

set_option maxHeartbeats 2000000 in
set_option maxRecDepth 100000 in
theorem make1 (w : World) (b : Nat) (h : Bk1 w b) (hT : BitsTab w) (hD : DbTab w) : Calls Tryd.prog 19 #[.slice (some ⟨b + 2, 0, none⟩) 1 1, .int .i64 1, .int .i64 1, .int .i64 1, .int .i64 1, .slice none 0 0] w fun e w' => ∃ n : Nat, 0 < n ∧ e = .returned (.tuple #[.agg #[.int .i64 1, .int .i64 1, .int .i64 1, .int .i64 1, .int .i64 4, .int .i64 4, .int .i64 (n : Int), .slice none 0 0], .int .i64 0]) ∧ Below w.heap.size w w' := by
  obtain ⟨w0, hw0⟩ : ∃ w0, w0 = w.alloc (.cells #[.int .i64 0, .int .i64 0, .int .i64 0, .int .i64 0, .int .i64 0, .int .i64 0, .int .i64 0, .slice none 0 0] 24) := ⟨_, rfl⟩
  have b0 : Below w.heap.size w w0 := by rw [hw0]; exact (Below.refl _ w).alloc (Nat.le_refl _) _
  have q0 : w0.heap[w.heap.size]? = some (.cells #[.int .i64 0, .int .i64 0, .int .i64 0, .int .i64 0, .int .i64 0, .int .i64 0, .int .i64 0, .slice none 0 0] 24 (0, 0)) := by rw [hw0]; exact heap_alloc_new w _
  have h0 := h.below b0
  have HE := hidn (chEncode_yes (some ⟨b + 2, 0, none⟩) 1 1 [bkSer b] w0 h0.srs (bk_can _) (by rw [bk_partsL]; decide) (hT.below b0) (hD.below b0))
  have HH := hidn h0
  have HB0 := hidn b0
  have HQ0 := hidn q0
  have HW0 := hidn hw0
  obtain ⟨c, hc⟩ : ∃ c, c = b + 2 := ⟨_, rfl⟩
  rw [← hc] at HE
  rw [← hc]
  have HC := hidn hc
  clear hw0 b0 q0 h0 h hc
  go_enter Tryd.func19, Tryd.ntmps19
  go_wp2_with fail
  rw [← HW0.out]
  refine HE.out.mono ?_
  rintro e w1 ⟨v, zs, rfl, hst, hown, hzl, b1⟩
  rw [bk_partsL] at hzl
  rw [bk_parts] at hst
  have hz4 : 4 ≤ zs.length := by
    obtain ⟨p, r, hp, rfl, hr⟩ := hst
    rw [List.length_append]
    unfold chunkB
    rw [List.length_append, putB_length]
    omega
  obtain ⟨zl, hzle⟩ : ∃ zl, zl = zs.length := ⟨_, rfl⟩
  rw [← hzle] at hzl hz4 hown
  obtain ⟨va, vc, rfl⟩ : ∃ a c, v = .slice a zl c := own_slice hown
  have B1 := HB0.out.trans (b1.mono HB0.out.size)
  have H1 := hidn (HH.out.below b1)
  have Q1 := hidn ((b1.block w.heap.size (Array.getElem?_eq_some_iff.1 HQ0.out).1).trans HQ0.out)
  obtain ⟨w2, hw2⟩ : ∃ w2, w2 = w1.alloc (.cells #[.int .i64 1, .int .i64 1, .int .i64 1, .int .i64 1, .int .i64 0, .int .i64 0, .int .i64 (zl : Int), .slice none 0 0] 24) := ⟨_, rfl⟩
  have b2 : Below w1.heap.size w1 w2 := by rw [hw2]; exact (Below.refl _ w1).alloc (Nat.le_refl _) _
  have HS := hidn (span1 w2 b (H1.out.below b2))
  rw [← HC.out] at HS
  have B2 := B1.trans (b2.mono B1.size)
  have HQ2 : Hid (w2.heap[w1.heap.size]? = some (.cells #[.int .i64 1, .int .i64 1, .int .i64 1, .int .i64 1, .int .i64 0, .int .i64 0, .int .i64 (zl : Int), .slice none 0 0] 24 (0, 0))) := hidn (by rw [hw2]; exact heap_alloc_new w1 _)
  have HW2 := hidn hw2
  have Q2 := hidn ((b2.block w.heap.size (Array.getElem?_eq_some_iff.1 Q1.out).1).trans Q1.out)
  have HL := hidn (show w.heap.size < w1.heap.size from (Array.getElem?_eq_some_iff.1 Q1.out).1)
  clear hw2 hst hown b1 B1 b2 hzle
  have happ : ∀ wx : World, (Builtin.append_ #[22, 22] 22 #[.slice none 0 0, .slice none 0 0]).run Tryd.prog wx = .ok (.slice none 0 0) wx := fun wx => by
    obtain ⟨i0, z, hi, hz0, hz1, hz2, hzc⟩ := bkInfo
    exact run_append_owned_none (P := Tryd.prog) (w := wx) 0 22 22 3 i0 1 Tryd.underlying22 hi (.slice none 0 0) 0 [] (World.ownsRow_nil _ _ _ _)
  go_wp2_with (at_builtin; refine wpList_app_run2 rfl _ _ 22 22 rfl rfl (.slice none 0 0) (.slice none 0 0) (.slice none 0 0) rfl rfl (happ _) ?_)
  rw [← HW2.out]
  refine HS.out.mono ?_
  rintro e w3 ⟨rfl, b3⟩
  have hg3 := (b3.block w1.heap.size (Array.getElem?_eq_some_iff.1 HQ2.out).1).trans HQ2.out
  have hr3 := (b3.block w.heap.size (Array.getElem?_eq_some_iff.1 Q2.out).1).trans Q2.out
  have B3 := B2.trans (b3.mono B2.size)
  have hgm : (w3.setCell ⟨w1.heap.size, 4, none⟩ (.int .i64 4)).heap[w1.heap.size]? = some (.cells #[.int .i64 1, .int .i64 1, .int .i64 1, .int .i64 1, .int .i64 4, .int .i64 0, .int .i64 (zl : Int), .slice none 0 0] 24 (0, 0)) := bk_set4 hg3 _
  have hg4 : ((w3.setCell ⟨w1.heap.size, 4, none⟩ (.int .i64 4)).setCell ⟨w1.heap.size, 5, none⟩ (.int .i64 4)).heap[w1.heap.size]? = some (.cells #[.int .i64 1, .int .i64 1, .int .i64 1, .int .i64 1, .int .i64 4, .int .i64 4, .int .i64 (zl : Int), .slice none 0 0] 24 (0, 0)) := bk_set5 hgm _
  have c4 : w3.cell? ⟨w1.heap.size, 4, none⟩ = some (.int .i64 0) := cell_of_row _ _ _ _ _ _ hg3
  have z4 : w3.frozen? ⟨w1.heap.size, 4, none⟩ = false := by simp [World.frozen?, hg3]
  have c5 : (w3.setCell ⟨w1.heap.size, 4, none⟩ (.int .i64 4)).cell? ⟨w1.heap.size, 5, none⟩ = some (.int .i64 0) := cell_of_row _ _ _ _ _ _ hgm
  have z5 : (w3.setCell ⟨w1.heap.size, 4, none⟩ (.int .i64 4)).frozen? ⟨w1.heap.size, 5, none⟩ = false := by simp only [World.frozen?, hgm]; rfl
  have lG : w.heap.size ≤ w1.heap.size := Nat.le_of_lt HL.out
  have B5 : Below w.heap.size w ((w3.setCell ⟨w1.heap.size, 4, none⟩ (.int .i64 4)).setCell ⟨w1.heap.size, 5, none⟩ (.int .i64 4)) := (B3.setCell (p := ⟨w1.heap.size, 4, none⟩) lG _).setCell (p := ⟨w1.heap.size, 5, none⟩) lG _
  have hr5 : ((w3.setCell ⟨w1.heap.size, 4, none⟩ (.int .i64 4)).setCell ⟨w1.heap.size, 5, none⟩ (.int .i64 4)).heap[w.heap.size]? = some (.cells #[.int .i64 0, .int .i64 0, .int .i64 0, .int .i64 0, .int .i64 0, .int .i64 0, .int .i64 0, .slice none 0 0] 24 (0, 0)) := by
    rw [Below.heap_setCell _ ⟨w1.heap.size, 5, none⟩ _ _ (by show w.heap.size ≠ w1.heap.size; have := HL.out; omega), Below.heap_setCell _ ⟨w1.heap.size, 4, none⟩ _ _ (by show w.heap.size ≠ w1.heap.size; have := HL.out; omega)]
    exact hr3
  have HG4 := hidn hg4
  have HR5 := hidn hr5
  have HB5 := hidn B5
  have HZ : Hid (bCan 1 1 1 1 4 4 (zl : Int) [] = true) := hidn (by
    have h1 : (zl : Int) ≤ 2147483647 := by omega
    have h2 : ¬ (zl : Int) = 0 := by omega
    simp [bCan, bN, bSp, bPa, h1]
    omega)
  have HN4 : Hid (0 < zl) := hidn (by omega)
  clear hg3 hr3 B3 hgm hg4 hr5 B5 lG hz4 hzl b3 B2
  simp only []
  go_at_K
  repeat (first
    | (with_reducible refine wpList_load_row (by rfl) 24 (.tmp 16) (by rfl) w1.heap.size (by kernel_rfl) 24 #[.int .i64 1, .int .i64 1, .int .i64 1, .int .i64 1, .int .i64 4, .int .i64 4, .int .i64 (zl : Int), .slice none 0 0] (0, 0) _ HG4.out Tryd.underlying24 rfl (by kernel_rfl) ?_)
    | go_values | go_skip | go_guarded | go_step | go_upon)
  refine (bCan_any _ 1 1 1 1 4 4 (zl : Int) none 0 0 [] ⟨rfl, by decide, fun _ => rfl, fun x hx => by cases hx⟩).mono ?_
  rintro e w6 ⟨rfl, b6⟩
  rw [HZ.out]
  have HG6 := hidn ((b6.block w1.heap.size (Array.getElem?_eq_some_iff.1 HG4.out).1).trans HG4.out)
  have HR6 := hidn ((b6.block w.heap.size (Array.getElem?_eq_some_iff.1 HR5.out).1).trans HR5.out)
  have HB6 := hidn (HB5.out.trans (b6.mono HB5.out.size))
  clear b6 c4 z4 c5 z5
  simp only []
  go_at_K
  repeat (first
    | (with_reducible refine wpList_load_row (by rfl) 24 (.tmp 16) (by rfl) w1.heap.size (by kernel_rfl) 24 #[.int .i64 1, .int .i64 1, .int .i64 1, .int .i64 1, .int .i64 4, .int .i64 4, .int .i64 (zl : Int), .slice none 0 0] (0, 0) _ HG6.out Tryd.underlying24 rfl (by kernel_rfl) ?_)
    | (with_reducible refine wpList_store_row (by rfl) 24 (.tmp 12) (.tmp 46) (by rfl) w.heap.size #[.int .i64 1, .int .i64 1, .int .i64 1, .int .i64 1, .int .i64 4, .int .i64 4, .int .i64 (zl : Int), .slice none 0 0] (by kernel_rfl) (by kernel_rfl) 24 #[.int .i64 0, .int .i64 0, .int .i64 0, .int .i64 0, .int .i64 0, .int .i64 0, .int .i64 0, .slice none 0 0] HR6.out (by kernel_rfl) (by kernel_rfl) (by kernel_rfl) ?_)
    | go_values | go_skip | go_guarded | go_step | go_upon)
  exact bodyPost_ret (v := .tuple #[.agg #[.int .i64 1, .int .i64 1, .int .i64 1, .int .i64 1, .int .i64 4, .int .i64 4, .int .i64 (zl : Int), .slice none 0 0], .int .i64 0]) (bk_rowtmp rfl _ _ w.heap.size 24 #[.int .i64 1, .int .i64 1, .int .i64 1, .int .i64 1, .int .i64 4, .int .i64 4, .int .i64 (zl : Int), .slice none 0 0] (0, 0) _ rfl (setRow_heap _ _ _ _ _ _ HR6.out) Tryd.underlying24 rfl (by kernel_rfl) _ rfl) rfl ⟨zl, HN4.out, rfl, below_setRow HB6.out (Nat.le_refl _) _⟩

set_option maxHeartbeats 2000000 in
set_option maxRecDepth 100000 in
theorem awake19 (w : World) (hT : BitsTab w) (hD : DbTab w) : Calls Tryd.prog 10 #[] w fun e w' => e = .returned (.bool true) ∧ Below w.heap.size w w' := by
  obtain ⟨w1, hw1⟩ : ∃ w1, w1 = w.alloc (.cells #[.string ⟨#[97]⟩, .string ⟨#[120]⟩] 47) := ⟨_, rfl⟩
  obtain ⟨w2, hw2⟩ : ∃ w2, w2 = w1.alloc (.cells #[.int .i64 4, .int .u64 2] 50) := ⟨_, rfl⟩
  obtain ⟨w3, hw3⟩ : ∃ w3, w3 = w2.alloc (.cells #[.slice (some ⟨w.heap.size, 0, none⟩) 1 1, .slice (some ⟨w.heap.size + 1, 0, none⟩) 1 1] 53) := ⟨_, rfl⟩
  have b1 : Below w.heap.size w w1 := by rw [hw1]; exact (Below.refl _ w).alloc (Nat.le_refl _) _
  have b2 : Below w1.heap.size w1 w2 := by rw [hw2]; exact (Below.refl _ w1).alloc (Nat.le_refl _) _
  have b3 : Below w2.heap.size w2 w3 := by rw [hw3]; exact (Below.refl _ w2).alloc (Nat.le_refl _) _
  have s1 : w1.heap.size = w.heap.size + 1 := by rw [hw1]; simp
  have s2 : w2.heap.size = w.heap.size + 2 := by rw [hw2]; simp; omega
  have B2 := b1.trans (b2.mono b1.size)
  have B3 := B2.trans (b3.mono B2.size)
  have q1 : w3.heap[w.heap.size]? = some (.cells #[.string ⟨#[97]⟩, .string ⟨#[120]⟩] 47 (0, 0)) := by
    rw [b3.block _ (by omega), b2.block _ (by omega), hw1]; exact heap_alloc_new w _
  have q2 : w3.heap[w.heap.size + 1]? = some (.cells #[.int .i64 4, .int .u64 2] 50 (0, 0)) := by
    rw [b3.block _ (by omega), hw2, ← s1]; exact heap_alloc_new w1 _
  have q3 : w3.heap[w.heap.size + 2]? = some (.cells #[.slice (some ⟨w.heap.size, 0, none⟩) 1 1, .slice (some ⟨w.heap.size + 1, 0, none⟩) 1 1] 53 (0, 0)) := by
    rw [hw3, ← s2]; exact heap_alloc_new w2 _
  have HM := hidn (make1 w3 w.heap.size ⟨q1, q2, q3⟩ (hT.below B3) (hD.below B3))
  have HW : Hid (((w.alloc (.cells #[.string ⟨#[97]⟩, .string ⟨#[120]⟩] 47)).alloc (.cells #[.int .i64 4, .int .u64 2] 50)).alloc (.cells #[.slice (some ⟨w.heap.size, 0, none⟩) 1 1, .slice (some ⟨w.heap.size + 1, 0, none⟩) 1 1] 53) = w3) := hidn (by rw [hw3, hw2, hw1])
  have HB3 := hidn B3
  clear hw1 hw2 hw3 b1 b2 b3 s1 s2 B2 q1 q2 q3 B3
  go_enter Tryd.func10, Tryd.ntmps10
  go_wp2_with fail
  rw [HW.out]
  refine HM.out.mono ?_
  rintro e w4 ⟨n, hn, rfl, b4⟩
  have B4 := HB3.out.trans (b4.mono HB3.out.size)
  have hn2 : (0 : Int) < (n : Int) := by omega
  have HB4 := hidn (B4.alloc B4.size (.cells #[.int .i64 1, .int .i64 1, .int .i64 1, .int .i64 1, .int .i64 4, .int .i64 4, .int .i64 (n : Int), .slice none 0 0] 24))
  clear b4 B4
  go_wp2_with fail
  exact bodyPost_ret (v := .bool true) (by simp [results, Tryd.results10, go_sem]) rfl ⟨rfl, HB4.out⟩

end Go.Proofs.YtfgfkifdokeefaaDoor
