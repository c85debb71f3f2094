/- index: least, behind, sift, Union, Meet, Minus. -/
import Derived.Test.YtiffbbcgailmnaaGreatDoorIxB
import Derived.Deep.RegionWith
import Derived.Test.YtiffbbcgailmnaaGreatDoorDrawn
namespace Go.Proofs.YtiffbbcgailmnaaGreatDoor
open Go.RowKit Go.Joins
set_option linter.unusedVariables false

def leastS : List Int → List Int → Int
  | [], [] => 0
  | [], y :: _ => y
  | x :: _, [] => x
  | x :: _, y :: _ => min x y

theorem leastS_spec {A B : List Int} (hA : Rises A) (hB : Rises B) (h : A ≠ [] ∨ B ≠ []) : (leastS A B ∈ A ∨ leastS A B ∈ B) ∧ (∀ y ∈ A, leastS A B ≤ y) ∧ ∀ y ∈ B, leastS A B ≤ y := by
  have low : ∀ {x : Int} {t : List Int}, Rises (x :: t) → ∀ y ∈ x :: t, x ≤ y := by
    intro x t hr y hy
    rcases List.mem_cons.1 hy with e | e
    · omega
    · have := (List.pairwise_cons.1 hr).1 y e; omega
  match A, B with
  | [], [] => rcases h with h | h <;> exact absurd rfl h
  | [], y :: t => exact ⟨.inr (by simp [leastS]), (fun z hz => by cases hz), low hB⟩
  | x :: t, [] => exact ⟨.inl (by simp [leastS]), low hA, fun z hz => by cases hz⟩
  | x :: t, y :: u =>
    refine ⟨?_, fun z hz => ?_, fun z hz => ?_⟩
    · show min x y ∈ _ ∨ min x y ∈ _
      rcases Int.le_total x y with e | e
      · rw [Int.min_eq_left e]; exact .inl (by simp)
      · rw [Int.min_eq_right e]; exact .inr (by simp)
    · have := low hA z hz
      show min x y ≤ z
      omega
    · have := low hB z hz
      show min x y ≤ z
      omega

theorem Ils.nilI {w : World} {a : Option Addr} {n : Nat} (h : Ils w a n []) : n = 0 := h.1.symm
theorem Ils.headI {w : World} {a : Option Addr} {n : Nat} {x : Int} {t : List Int} (h : Ils w a n (x :: t)) : 0 < n ∧ ∃ b off, a = some ⟨b, off, none⟩ ∧ w.cell? ⟨b, off, none⟩ = some (.int .i64 x) := by
  have h1 := h.1
  refine ⟨by simp at h1; omega, ?_⟩
  obtain ⟨b, off, e, c⟩ := h.at (j := 0) (c := x) rfl
  exact ⟨b, off, e, by simpa using c⟩

theorem ixSlice1 {w : World} {a : Option Addr} {n c : Nat} {x : Int} {t : List Int} (h : Ils w a n (x :: t)) (hc : n ≤ c) :
    ∃ a', (∀ wx, (Instr.slice 22 (.slice a n c) (some (.int .i64 1)) none none).run Tryz.prog wx = .ok (.slice a' (n - 1) (c - 1)) wx) ∧ Ils w a' (n - 1) t := by
  obtain ⟨h0, b, off, rfl, _⟩ := h.headI
  refine ⟨if c = 1 then some ⟨b, off, none⟩ else (some (⟨b, off, none⟩ : Addr)).map (·.add (1 * 1)), fun wx => ?_, ?_⟩
  · rw [show (Value.int .i64 1) = (Value.int .i64 ((1 : Nat) : Int)) from rfl, run_slice_l (P := Tryz.prog) wx 22 (some ⟨b, off, none⟩) n c (by kernel_rfl) .i64 ((1 : Nat) : Int) (by omega) (by omega)]
    have hsz : (sizeOf (Tryz.prog.elem 22)).run Tryz.prog wx = .ok 1 wx := by kernel_rfl
    rw [hsz]
    simp [Result.andThen, sliced]
  · obtain ⟨h1, h2, h3, h4⟩ := h
    refine ⟨by simp at h1; omega, by omega, fun e => ?_, fun y hy j z hj => ?_⟩
    · split at e <;> simp at e
    · by_cases hc1 : c = 1
      · have hjt : j < t.length := (List.getElem?_eq_some_iff.1 hj).1
        simp at h1
        omega
      · rw [if_neg hc1] at hy
        simp only [Option.map_some, Option.some.injEq] at hy
        subst hy
        have h9 := h4 _ rfl (j + 1) z (by simpa using hj)
        have e : ((⟨b, off, none⟩ : Addr).add (1 * 1)).add j = (⟨b, off, none⟩ : Addr).add (j + 1) := by
          rw [Nat.mul_one, add_none, add_none, add_none]
          congr 1
          omega
        rw [e]
        exact h9

theorem behind_if (n : Int) (l : List Int) : (if headIs n l then l.tail else l) = behindS n l := by
  cases l with
  | nil => rfl
  | cons x t =>
    by_cases h : x = n
    · simp [headIs, behindS, h]
    · simp [headIs, behindS, h]

theorem sift_meas (ia ib : Bool) (n m n6 n7 : Nat) (h6 : n6 = if ia then n - 1 else n) (h7 : n7 = if ib then m - 1 else m) (h8 : ia = true ∨ ib = true) (hn : ia = true → 0 < n) (hm : ib = true → 0 < m) : n6 + n7 < n + m := by
  cases ia <;> cases ib <;> simp at h6 h7 h8 hn hm <;> omega

def slN9 : Value → Nat
  | .slice _ m _ => m
  | _ => 0

set_option maxHeartbeats 1000000 in
theorem behind_any (a : Option Addr) (n c : Nat) (l : List Int) (met : Bool) (w0 w : World) (h : Ils w0 a n l) (hb : Below w0.heap.size w0 w) (hc : n ≤ c) (hm : met = true → l ≠ []) :
    Calls Tryz.prog 22 #[.slice a n c, .bool met] w fun e w' => ∃ a' m c', e = .returned (.slice a' m c') ∧ Ils w0 a' m (if met then l.tail else l) ∧ m ≤ c' ∧ m = (if met then n - 1 else n) ∧ w' = w := by
  cases met with
  | false =>
    have HI := hidn h
    clear h
    go_enter Tryz.func22, Tryz.ntmps22
    go_wp2_with fail
    go_ret
    exact ⟨_, _, _, rfl, HI.out, hc, rfl, rfl⟩
  | true =>
    cases l with
    | nil => exact absurd rfl (hm rfl)
    | cons x t =>
      obtain ⟨a', hsl, hI⟩ := ixSlice1 h hc
      have HI := hidn hI
      have HC : Hid (n - 1 ≤ c - 1) := hidn (by omega)
      clear h hI hm
      go_enter Tryz.func22, Tryz.ntmps22
      go_wp2_with fail
      go_ret
      exact ⟨_, _, _, rfl, HI.out, HC.out, rfl, rfl⟩

set_option maxHeartbeats 1000000 in
theorem least_any (a b : Option Addr) (n c m d : Nat) (A B : List Int) (w : World) (hA : Ils w a n A) (hB : Ils w b m B) (h : A ≠ [] ∨ B ≠ []) :
    Calls Tryz.prog 21 #[.slice a n c, .slice b m d] w fun e w' => e = .returned (.int .i64 (leastS A B)) ∧ Below w.heap.size w w' := by
  match A, B with
  | [], [] => rcases h with h | h <;> exact absurd rfl h
  | [], y :: t =>
    have hn := hA.nilI
    subst hn
    obtain ⟨hm, g, off, rfl, c0⟩ := hB.headI
    have hmi : (0 : Int) < (m : Int) := by omega
    clear hA hB h
    go_enter Tryz.func21, Tryz.ntmps21
    go_wp2_with fail
    go_ret
    exact ⟨rfl, Below.refl _ _⟩
  | x :: t, [] =>
    have hm := hB.nilI
    subst hm
    obtain ⟨hn, g, off, rfl, c0⟩ := hA.headI
    have hni : (0 : Int) < (n : Int) := by omega
    have hne : ((n : Int) == 0) = false := by simp; omega
    clear hA hB h
    go_enter Tryz.func21, Tryz.ntmps21
    go_wp2_with fail
    go_ret
    exact ⟨rfl, Below.refl _ _⟩
  | x :: t, y :: u =>
    obtain ⟨hn, g, off, rfl, c0⟩ := hA.headI
    obtain ⟨hm, g2, off2, rfl, c1⟩ := hB.headI
    have hni : (0 : Int) < (n : Int) := by omega
    have hmi : (0 : Int) < (m : Int) := by omega
    have hne : ((n : Int) == 0) = false := by simp; omega
    have hme : ((m : Int) == 0) = false := by simp; omega
    have hd : Below w.heap.size w w.drew := (Below.refl _ w).drew
    rw [show leastS (x :: t) (y :: u) = min x y from rfl]
    obtain ⟨z, hz⟩ : ∃ z, min x y = z := ⟨_, rfl⟩
    have hz2 : (if y < x then y else x) = z := by rw [← hz]; split <;> omega
    rw [hz]
    clear hA hB h
    go_enter Tryz.func21, Tryz.ntmps21
    go_wp2_with fail
    go_region
    go_wp2_with fail
    go_ret
    exact ⟨rfl, hd⟩

def inEitherS : Bool → Bool → Bool := fun x y => x || y
theorem inEither_any (x y : Bool) (w : World) : Calls Tryz.prog 14 #[.bool x, .bool y] w fun e w' => e = .returned (.bool (inEitherS x y)) ∧ w' = w := by
  cases x <;> cases y <;> (
    go_enter Tryz.func14, Tryz.ntmps14
    go_wp2_with fail
    go_ret
    exact ⟨rfl, rfl⟩)

def inBothS : Bool → Bool → Bool := fun x y => x && y
theorem inBoth_any (x y : Bool) (w : World) : Calls Tryz.prog 16 #[.bool x, .bool y] w fun e w' => e = .returned (.bool (inBothS x y)) ∧ w' = w := by
  cases x <;> cases y <;> (
    go_enter Tryz.func16, Tryz.ntmps16
    go_wp2_with fail
    go_ret
    exact ⟨rfl, rfl⟩)

def inFirstAloneS : Bool → Bool → Bool := fun x y => x && !y
theorem inFirstAlone_any (x y : Bool) (w : World) : Calls Tryz.prog 17 #[.bool x, .bool y] w fun e w' => e = .returned (.bool (inFirstAloneS x y)) ∧ w' = w := by
  cases x <;> cases y <;> (
    go_enter Tryz.func17, Tryz.ntmps17
    go_wp2_with fail
    go_ret
    exact ⟨rfl, rfl⟩)

theorem SiftI.riseA {f : Bool → Bool → Bool} {A B A' B' K : List Int} (h : SiftI f A B A' B' K) (hA : Rises A) : Rises A' := by
  obtain ⟨P, Q, hP, _⟩ := h
  exact rises_suffix hA hP
theorem SiftI.riseB {f : Bool → Bool → Bool} {A B A' B' K : List Int} (h : SiftI f A B A' B' K) (hB : Rises B) : Rises B' := by
  obtain ⟨P, Q, _, hQ, _⟩ := h
  exact rises_suffix hB hQ
theorem rises_sub_len : ∀ {l m : List Int}, Rises l → (∀ x ∈ l, x ∈ m) → l.length ≤ m.length
  | [], m, _, _ => Nat.zero_le _
  | x :: t, m, hl, h => by
    have h1 := List.pairwise_cons.1 hl
    have h2 := rises_sub_len (l := t) (m := m.erase x) h1.2 (fun y hy => by
      have hne : y ≠ x := by have := h1.1 y hy; omega
      exact (List.mem_erase_of_ne hne).2 (h y (by simp [hy])))
    have h3 := List.length_erase_of_mem (h x (by simp))
    have h4 : 0 < m.length := List.length_pos_of_mem (h x (by simp))
    simp only [List.length_cons]
    omega
theorem SiftI.len {f : Bool → Bool → Bool} {A B A' B' K : List Int} (h : SiftI f A B A' B' K) (hA : Rises A) (hB : Rises B) : K.length ≤ A.length + B.length := by
  obtain ⟨P, Q, hP, hQ, kr, _, mm⟩ := h
  have := rises_sub_len (m := A ++ B) kr (fun x hx => by
    rcases ((mm x).1 hx).1 with e | e
    · rw [hP]; simp [e]
    · rw [hQ]; simp [e])
  simpa using this

def SiftP (f : Bool → Bool → Bool) (a b : List Int) (w : World) (e : Ending) (w' : World) : Prop :=
  ∃ L v, e = .returned v ∧ w'.ownsRow w.heap.size 3 1 v L.length (ivs L) ∧ (Rises L ∧ ∀ x, x ∈ L ↔ (x ∈ a ∨ x ∈ b) ∧ f (decide (x ∈ a)) (decide (x ∈ b)) = true) ∧ L.length ≤ a.length + b.length ∧ Below w.heap.size w w'

end Go.Proofs.YtiffbbcgailmnaaGreatDoor

namespace Go.Proofs.YtiffbbcgailmnaaGreatDoor
open Go.RowKit Go.Joins
set_option linter.unusedVariables false

set_option maxHeartbeats 4000000 in
set_option maxRecDepth 100000 in
theorem sift_inEither (a b : Option Addr) (la ca0 lb cb0 : Nat) (l1 l2 : List Int) (w : World) (h1 : Ils w a la l1) (h2 : Ils w b lb l2) (hm1 : la ≤ 1000) (hm2 : lb ≤ 1000) :
    Calls Tryz.prog 13 #[.slice a la ca0, .slice b lb cb0, .func (.func 14) #[] #[]] w (SiftP inEitherS l1 l2 w) := by
  obtain ⟨i1, z1, hi1, hy0, hy1, hy2, hyc⟩ := iInfo
  have H1 := hidn (ixRising_any a la ca0 l1 w h1 hm1)
  have H2 := hidn (fun w2 (b2 : Below w.heap.size w w2) => ixRising_any b lb cb0 l2 w2 (h2.below b2) hm2)
  obtain ⟨A, hA⟩ : ∃ A, A = riseS l1 := ⟨_, rfl⟩
  obtain ⟨B, hB⟩ : ∃ B, B = riseS l2 := ⟨_, rfl⟩
  have HRA : Hid (Rises A) := hidn (by rw [hA]; exact riseS_rises l1)
  have HRB : Hid (Rises B) := hidn (by rw [hB]; exact riseS_rises l2)
  have HLA : Hid (A.length ≤ 1000) := hidn (by rw [hA]; have := riseS_len l1; have := h1.1; omega)
  have HLB : Hid (B.length ≤ 1000) := hidn (by rw [hB]; have := riseS_len l2; have := h2.1; omega)
  have HLL : Hid (A.length ≤ l1.length ∧ B.length ≤ l2.length) := hidn (by rw [hA, hB]; exact ⟨riseS_len l1, riseS_len l2⟩)
  have HMA : Hid (∀ x, x ∈ A ↔ x ∈ l1) := hidn (by rw [hA]; exact riseS_mem l1)
  have HMB : Hid (∀ x, x ∈ B ↔ x ∈ l2) := hidn (by rw [hB]; exact riseS_mem l2)
  rw [← hA] at H1
  rw [← hB] at H2
  clear h1 h2 hA hB
  go_enter Tryz.func13, Tryz.ntmps13
  go_wp2_with fail
  refine H1.out.mono ?_
  rintro e w1 ⟨aa, ca, rfl, hIA, hca, b1⟩
  have HIA1 := hidn hIA
  have HB1 := hidn b1
  clear hIA b1 H1
  go_wp2_with fail
  refine (H2.out w1 HB1.out).mono ?_
  rintro e w2 ⟨ba, cb, rfl, hIB, hcb, b2⟩
  have HIB0 := hidn hIB
  have HIA0 := hidn (HIA1.out.below b2)
  have HB2 := hidn (HB1.out.trans (b2.mono HB1.out.size))
  have HCA0 := hidn hca
  have HCB0 := hidn hcb
  clear hIB b2 H2 hca hcb HIA1
  go_wp2_with fail
  go_loopw [0, 1, 7] (fun av bv kv wr => ∃ (A' B' K : List Int) (aa ba : Option Addr) (n m ca cb : Nat), av = .slice aa n ca ∧ bv = .slice ba m cb ∧ Hid (SiftI inEitherS A B A' B' K) ∧ Hid (Ils w2 aa n A') ∧ Hid (Ils w2 ba m B') ∧ Hid (n ≤ ca) ∧ Hid (m ≤ cb) ∧ Hid (wr.ownsRow w2.heap.size 3 1 kv K.length (ivs K)) ∧ Hid (Below w2.heap.size w2 wr)) (fun av bv _ _ => slN9 av + slN9 bv)
  case atStart => exact ⟨A, B, [], aa, ba, _, _, ca, cb, rfl, rfl, hidn (SiftI.start _ A B), HIA0, HIB0, HCA0, HCB0, hidn (World.ownsRow_nil _ _ _ _), hidn (Below.refl _ _)⟩
  case round =>
    obtain ⟨A', B', K, aa, ba, n, m, ca, cb, rfl, rfl, HS, HIA, HIB, HCA, HCB, HO, HB⟩ := hrel
    cases hAe : A' with
    | nil =>
      cases hBe : B' with
      | nil =>
        have hn0 : n = 0 := (show Ils w2 aa n [] from by rw [← hAe]; exact HIA.out).nilI
        have hm0 : m = 0 := (show Ils w2 ba m [] from by rw [← hBe]; exact HIB.out).nilI
        subst hn0
        subst hm0
        have hS9 := HS.out
        rw [hAe, hBe] at hS9
        have hD := hS9.done
        have hLn := HS.out.len HRA.out HRB.out
        have HD := hidn hD
        have HLN := hidn hLn
        clear hD hLn hS9 hAe hBe
        go_wp2_with fail
        go_ret
        refine ⟨K, _, rfl, own_lower HO.out HB2.out.size, ⟨HD.out.1, fun x => ?_⟩, ?_, HB2.out.trans (HB.out.mono HB2.out.size)⟩
        · rw [HD.out.2 x]
          have e1 : decide (x ∈ A) = decide (x ∈ l1) := decide_eq_decide.2 (HMA.out x)
          have e2 : decide (x ∈ B) = decide (x ∈ l2) := decide_eq_decide.2 (HMB.out x)
          rw [e1, e2, HMA.out x, HMB.out x]
        · have := HLN.out
          have := HLL.out
          omega
      | cons xb tb =>
        have HLE := hidn (least_any aa ba n ca m cb A' B' wr (HIA.out.below HB.out) (HIB.out.below HB.out) (.inr (by rw [hBe]; simp)))
        obtain ⟨hin, hla, hlb⟩ := leastS_spec (HS.out.riseA HRA.out) (HS.out.riseB HRB.out) ((.inr (by rw [hBe]; simp)) : A' ≠ [] ∨ B' ≠ [])
        have HST := hidn (HS.out.step HRA.out HRB.out _ hin hla hlb)
        obtain ⟨N, hN⟩ : ∃ N, N = leastS A' B' := ⟨_, rfl⟩
        rw [← hN] at HLE HST hin hla hlb
        obtain ⟨ia, hia⟩ : ∃ ia, headIs N A' = ia := ⟨_, rfl⟩
        obtain ⟨ib, hib⟩ : ∃ ib, headIs N B' = ib := ⟨_, rfl⟩
        have HBA := hidn (fun w9 (b9 : Below w2.heap.size w2 w9) => behind_any aa n ca A' ia w2 w9 HIA.out b9 HCA.out (fun e => by rw [hAe] at hia; rw [← hia] at e; cases e))
        have HBB := hidn (fun w9 (b9 : Below w2.heap.size w2 w9) => behind_any ba m cb B' ib w2 w9 HIB.out b9 HCB.out (fun e => by rw [hBe]; simp))
        rw [show (if ia then A'.tail else A') = behindS N A' from by rw [← hia]; exact behind_if N A'] at HBA
        rw [show (if ib then B'.tail else B') = behindS N B' from by rw [← hib]; exact behind_if N B'] at HBB
        rw [hia, hib] at HST
        have hn0 : n = 0 := (show Ils w2 aa n [] from by rw [← hAe]; exact HIA.out).nilI
        subst hn0
        have hia2 : ia = false := by rw [← hia, hAe]; rfl
        subst hia2
        obtain ⟨hm0, gb, ob, rfl, cB⟩ := (show Ils w2 ba m (xb :: tb) from by rw [← hBe]; exact HIB.out).headI
        have cB2 := (HB.out.cell (block_lt_of_cell cB)).trans cB
        have hmi : (0 : Int) < (m : Int) := by omega
        have hxb : (xb == N) = ib := by rw [← hib, hBe]; rfl
        obtain ⟨r, hr⟩ : ∃ r, inEitherS false ib = r := ⟨_, rfl⟩
        have HKE := hidn (inEither_any false ib)
        rw [hr] at HST HKE
        have HLT : Hid (false = true ∨ ib = true) := hidn (by
          rcases hin with e | e
          · left; rw [hAe] at e; cases e
          · right; rw [← hib, head_mem (HS.out.riseB HRB.out) hlb]; simpa using e)
        obtain ⟨va, vc, e9⟩ : ∃ va vc, u7 = Value.slice va K.length vc := by
          rcases HO.out.2 with ⟨h1, h2⟩ | ⟨g, cp, cur, h1, _⟩
          · exact ⟨none, 0, by rw [h1, h2]⟩
          · exact ⟨_, _, h1⟩
        have HKL : Hid (K.length ≤ 100000) := hidn (by have := (HS.out.len HRA.out HRB.out); have := HLA.out; have := HLB.out; omega)
        clear hin hla hlb hN hia hib hr cB hAe hBe
        go_wp2_with fail
        refine HLE.out.mono ?_
        clear HLE
        rintro e w4 ⟨rfl, b4⟩
        have B4 := HB.out.trans (b4.mono HB.out.size)
        have O4 := own_skip HO.out b4
        have cB4 := (b4.cell (block_lt_of_cell cB2)).trans cB2
        clear cB2
        have HB4 := hidn B4
        have HO4 := hidn O4
        clear B4 O4 b4 HO
        go_wp2_with fail
        refine (HKE.out w4).mono ?_
        rintro e w5 ⟨rfl, rfl⟩
        cases r with
        | true =>
          obtain ⟨wB, hwB⟩ : ∃ wB, wB = w5.alloc (.cells #[.int .i64 N] 3) := ⟨_, rfl⟩
          have bB : Below w5.heap.size w5 wB := by rw [hwB]; exact (Below.refl _ w5).alloc (Nat.le_refl _) _
          have qB : wB.heap[w5.heap.size]? = some (.cells #[.int .i64 N] 3 (0, 0)) := by rw [hwB]; exact heap_alloc_new w5 _
          have BB := HB4.out.trans (bB.mono HB4.out.size)
          have O2 := own_skip HO4.out bB
          obtain ⟨v3, w3, hrun, hown3, hgr3⟩ := appAny wB w2.heap.size 22 22 3 i1 z1 1 8 Tryz.underlying22 hi1 hy0 hy1 hy2 hyc (by decide) u7 K.length (ivs K) O2 BB.size (some ⟨w5.heap.size, 0, none⟩) 1 1 [.int .i64 N] rfl (fun e => by cases e) (fun x hx j u hu => by
            cases hx
            rw [add_none, Nat.zero_add, cell_of_row _ _ _ _ _ _ qB]
            simpa using hu) (fun u hu => by
            simp at hu
            rw [hu]
            rfl) (by have := HKL.out; unfold maxLen; omega) (by have := HKL.out; omega)
          have HB3 := hidn (BB.grown hgr3 BB.size (fun k hk => (O2.lt k hk).1))
          have HO3 : Hid (w3.ownsRow w2.heap.size 3 1 v3 (K ++ [N]).length (ivs (K ++ [N]))) := hidn (by
            rw [ivs_append, List.length_append]
            exact hown3)
          have HRUN := hidn hrun
          have HWB := hidn hwB
          subst e9
          clear hrun hown3 hgr3 O2 bB qB hwB BB HO4
          go_wp2_with (at_builtin; rw [← HWB.out]; refine wpList_app_runA rfl _ _ 22 22 rfl rfl _ _ _ rfl rfl HRUN.out ?_; clear HRUN)
          refine (HBA.out w3 HB3.out).mono ?_
          rintro e w6 ⟨a6, n6, c6, rfl, hI6, hc6, hl6, rfl⟩
          have HI6 := hidn hI6
          have HL6 := hidn hl6
          clear hI6 hl6
          go_wp2_with fail
          refine (HBB.out w6 HB3.out).mono ?_
          rintro e w7 ⟨a7, n7, c7, rfl, hI7, hc7, hl7, rfl⟩
          have HI7 := hidn hI7
          have HL7 := hidn hl7
          clear hI7 hl7
          go_wp2_with fail
          refine ⟨⟨_, _, _, a6, a7, n6, n7, c6, c7, rfl, rfl, HST, HI6, HI7, hidn hc6, hidn hc7, HO3, HB3⟩, ?_⟩
          have h6 := HL6.out
          have h7 := HL7.out
          have h8 := HLT.out
          show n6 + n7 < 0 + m
          exact sift_meas _ _ _ _ _ _ h6 h7 h8 (fun e => by cases e) (fun _ => hm0)
        | false =>
          have HO9 := HO4
          subst e9
          go_wp2_with fail
          refine (HBA.out w5 HB4.out).mono ?_
          rintro e w6 ⟨a6, n6, c6, rfl, hI6, hc6, hl6, rfl⟩
          have HI6 := hidn hI6
          have HL6 := hidn hl6
          clear hI6 hl6
          go_wp2_with fail
          refine (HBB.out w6 HB4.out).mono ?_
          rintro e w7 ⟨a7, n7, c7, rfl, hI7, hc7, hl7, rfl⟩
          have HI7 := hidn hI7
          have HL7 := hidn hl7
          clear hI7 hl7
          go_wp2_with fail
          refine ⟨⟨_, _, _, a6, a7, n6, n7, c6, c7, rfl, rfl, HST, HI6, HI7, hidn hc6, hidn hc7, HO9, HB4⟩, ?_⟩
          have h6 := HL6.out
          have h7 := HL7.out
          have h8 := HLT.out
          show n6 + n7 < 0 + m
          exact sift_meas _ _ _ _ _ _ h6 h7 h8 (fun e => by cases e) (fun _ => hm0)
    | cons xa ta =>
      cases hBe : B' with
      | nil =>
        have HLE := hidn (least_any aa ba n ca m cb A' B' wr (HIA.out.below HB.out) (HIB.out.below HB.out) (.inl (by rw [hAe]; simp)))
        obtain ⟨hin, hla, hlb⟩ := leastS_spec (HS.out.riseA HRA.out) (HS.out.riseB HRB.out) ((.inl (by rw [hAe]; simp)) : A' ≠ [] ∨ B' ≠ [])
        have HST := hidn (HS.out.step HRA.out HRB.out _ hin hla hlb)
        obtain ⟨N, hN⟩ : ∃ N, N = leastS A' B' := ⟨_, rfl⟩
        rw [← hN] at HLE HST hin hla hlb
        obtain ⟨ia, hia⟩ : ∃ ia, headIs N A' = ia := ⟨_, rfl⟩
        obtain ⟨ib, hib⟩ : ∃ ib, headIs N B' = ib := ⟨_, rfl⟩
        have HBA := hidn (fun w9 (b9 : Below w2.heap.size w2 w9) => behind_any aa n ca A' ia w2 w9 HIA.out b9 HCA.out (fun e => by rw [hAe]; simp))
        have HBB := hidn (fun w9 (b9 : Below w2.heap.size w2 w9) => behind_any ba m cb B' ib w2 w9 HIB.out b9 HCB.out (fun e => by rw [hBe] at hib; rw [← hib] at e; cases e))
        rw [show (if ia then A'.tail else A') = behindS N A' from by rw [← hia]; exact behind_if N A'] at HBA
        rw [show (if ib then B'.tail else B') = behindS N B' from by rw [← hib]; exact behind_if N B'] at HBB
        rw [hia, hib] at HST
        obtain ⟨hn0, ga, oa, rfl, cA⟩ := (show Ils w2 aa n (xa :: ta) from by rw [← hAe]; exact HIA.out).headI
        have cA2 := (HB.out.cell (block_lt_of_cell cA)).trans cA
        have hni : (0 : Int) < (n : Int) := by omega
        have hxa : (xa == N) = ia := by rw [← hia, hAe]; rfl
        have hm0 : m = 0 := (show Ils w2 ba m [] from by rw [← hBe]; exact HIB.out).nilI
        subst hm0
        have hib2 : ib = false := by rw [← hib, hBe]; rfl
        subst hib2
        obtain ⟨r, hr⟩ : ∃ r, inEitherS ia false = r := ⟨_, rfl⟩
        have HKE := hidn (inEither_any ia false)
        rw [hr] at HST HKE
        have HLT : Hid (ia = true ∨ false = true) := hidn (by
          rcases hin with e | e
          · left; rw [← hia, head_mem (HS.out.riseA HRA.out) hla]; simpa using e
          · right; rw [hBe] at e; cases e)
        obtain ⟨va, vc, e9⟩ : ∃ va vc, u7 = Value.slice va K.length vc := by
          rcases HO.out.2 with ⟨h1, h2⟩ | ⟨g, cp, cur, h1, _⟩
          · exact ⟨none, 0, by rw [h1, h2]⟩
          · exact ⟨_, _, h1⟩
        have HKL : Hid (K.length ≤ 100000) := hidn (by have := (HS.out.len HRA.out HRB.out); have := HLA.out; have := HLB.out; omega)
        clear hin hla hlb hN hia hib hr cA hAe hBe
        go_wp2_with fail
        refine HLE.out.mono ?_
        clear HLE
        rintro e w4 ⟨rfl, b4⟩
        have B4 := HB.out.trans (b4.mono HB.out.size)
        have O4 := own_skip HO.out b4
        have cA4 := (b4.cell (block_lt_of_cell cA2)).trans cA2
        clear cA2
        have HB4 := hidn B4
        have HO4 := hidn O4
        clear B4 O4 b4 HO
        go_wp2_with fail
        refine (HKE.out w4).mono ?_
        rintro e w5 ⟨rfl, rfl⟩
        cases r with
        | true =>
          obtain ⟨wB, hwB⟩ : ∃ wB, wB = w5.alloc (.cells #[.int .i64 N] 3) := ⟨_, rfl⟩
          have bB : Below w5.heap.size w5 wB := by rw [hwB]; exact (Below.refl _ w5).alloc (Nat.le_refl _) _
          have qB : wB.heap[w5.heap.size]? = some (.cells #[.int .i64 N] 3 (0, 0)) := by rw [hwB]; exact heap_alloc_new w5 _
          have BB := HB4.out.trans (bB.mono HB4.out.size)
          have O2 := own_skip HO4.out bB
          obtain ⟨v3, w3, hrun, hown3, hgr3⟩ := appAny wB w2.heap.size 22 22 3 i1 z1 1 8 Tryz.underlying22 hi1 hy0 hy1 hy2 hyc (by decide) u7 K.length (ivs K) O2 BB.size (some ⟨w5.heap.size, 0, none⟩) 1 1 [.int .i64 N] rfl (fun e => by cases e) (fun x hx j u hu => by
            cases hx
            rw [add_none, Nat.zero_add, cell_of_row _ _ _ _ _ _ qB]
            simpa using hu) (fun u hu => by
            simp at hu
            rw [hu]
            rfl) (by have := HKL.out; unfold maxLen; omega) (by have := HKL.out; omega)
          have HB3 := hidn (BB.grown hgr3 BB.size (fun k hk => (O2.lt k hk).1))
          have HO3 : Hid (w3.ownsRow w2.heap.size 3 1 v3 (K ++ [N]).length (ivs (K ++ [N]))) := hidn (by
            rw [ivs_append, List.length_append]
            exact hown3)
          have HRUN := hidn hrun
          have HWB := hidn hwB
          subst e9
          clear hrun hown3 hgr3 O2 bB qB hwB BB HO4
          go_wp2_with (at_builtin; rw [← HWB.out]; refine wpList_app_runA rfl _ _ 22 22 rfl rfl _ _ _ rfl rfl HRUN.out ?_; clear HRUN)
          refine (HBA.out w3 HB3.out).mono ?_
          rintro e w6 ⟨a6, n6, c6, rfl, hI6, hc6, hl6, rfl⟩
          have HI6 := hidn hI6
          have HL6 := hidn hl6
          clear hI6 hl6
          go_wp2_with fail
          refine (HBB.out w6 HB3.out).mono ?_
          rintro e w7 ⟨a7, n7, c7, rfl, hI7, hc7, hl7, rfl⟩
          have HI7 := hidn hI7
          have HL7 := hidn hl7
          clear hI7 hl7
          go_wp2_with fail
          refine ⟨⟨_, _, _, a6, a7, n6, n7, c6, c7, rfl, rfl, HST, HI6, HI7, hidn hc6, hidn hc7, HO3, HB3⟩, ?_⟩
          have h6 := HL6.out
          have h7 := HL7.out
          have h8 := HLT.out
          show n6 + n7 < n + 0
          exact sift_meas _ _ _ _ _ _ h6 h7 h8 (fun _ => hn0) (fun e => by cases e)
        | false =>
          have HO9 := HO4
          subst e9
          go_wp2_with fail
          refine (HBA.out w5 HB4.out).mono ?_
          rintro e w6 ⟨a6, n6, c6, rfl, hI6, hc6, hl6, rfl⟩
          have HI6 := hidn hI6
          have HL6 := hidn hl6
          clear hI6 hl6
          go_wp2_with fail
          refine (HBB.out w6 HB4.out).mono ?_
          rintro e w7 ⟨a7, n7, c7, rfl, hI7, hc7, hl7, rfl⟩
          have HI7 := hidn hI7
          have HL7 := hidn hl7
          clear hI7 hl7
          go_wp2_with fail
          refine ⟨⟨_, _, _, a6, a7, n6, n7, c6, c7, rfl, rfl, HST, HI6, HI7, hidn hc6, hidn hc7, HO9, HB4⟩, ?_⟩
          have h6 := HL6.out
          have h7 := HL7.out
          have h8 := HLT.out
          show n6 + n7 < n + 0
          exact sift_meas _ _ _ _ _ _ h6 h7 h8 (fun _ => hn0) (fun e => by cases e)
      | cons xb tb =>
        have HLE := hidn (least_any aa ba n ca m cb A' B' wr (HIA.out.below HB.out) (HIB.out.below HB.out) (.inl (by rw [hAe]; simp)))
        obtain ⟨hin, hla, hlb⟩ := leastS_spec (HS.out.riseA HRA.out) (HS.out.riseB HRB.out) ((.inl (by rw [hAe]; simp)) : A' ≠ [] ∨ B' ≠ [])
        have HST := hidn (HS.out.step HRA.out HRB.out _ hin hla hlb)
        obtain ⟨N, hN⟩ : ∃ N, N = leastS A' B' := ⟨_, rfl⟩
        rw [← hN] at HLE HST hin hla hlb
        obtain ⟨ia, hia⟩ : ∃ ia, headIs N A' = ia := ⟨_, rfl⟩
        obtain ⟨ib, hib⟩ : ∃ ib, headIs N B' = ib := ⟨_, rfl⟩
        have HBA := hidn (fun w9 (b9 : Below w2.heap.size w2 w9) => behind_any aa n ca A' ia w2 w9 HIA.out b9 HCA.out (fun e => by rw [hAe]; simp))
        have HBB := hidn (fun w9 (b9 : Below w2.heap.size w2 w9) => behind_any ba m cb B' ib w2 w9 HIB.out b9 HCB.out (fun e => by rw [hBe]; simp))
        rw [show (if ia then A'.tail else A') = behindS N A' from by rw [← hia]; exact behind_if N A'] at HBA
        rw [show (if ib then B'.tail else B') = behindS N B' from by rw [← hib]; exact behind_if N B'] at HBB
        rw [hia, hib] at HST
        obtain ⟨hn0, ga, oa, rfl, cA⟩ := (show Ils w2 aa n (xa :: ta) from by rw [← hAe]; exact HIA.out).headI
        have cA2 := (HB.out.cell (block_lt_of_cell cA)).trans cA
        have hni : (0 : Int) < (n : Int) := by omega
        have hxa : (xa == N) = ia := by rw [← hia, hAe]; rfl
        obtain ⟨hm0, gb, ob, rfl, cB⟩ := (show Ils w2 ba m (xb :: tb) from by rw [← hBe]; exact HIB.out).headI
        have cB2 := (HB.out.cell (block_lt_of_cell cB)).trans cB
        have hmi : (0 : Int) < (m : Int) := by omega
        have hxb : (xb == N) = ib := by rw [← hib, hBe]; rfl
        obtain ⟨r, hr⟩ : ∃ r, inEitherS ia ib = r := ⟨_, rfl⟩
        have HKE := hidn (inEither_any ia ib)
        rw [hr] at HST HKE
        have HLT : Hid (ia = true ∨ ib = true) := hidn (by
          rcases hin with e | e
          · left; rw [← hia, head_mem (HS.out.riseA HRA.out) hla]; simpa using e
          · right; rw [← hib, head_mem (HS.out.riseB HRB.out) hlb]; simpa using e)
        obtain ⟨va, vc, e9⟩ : ∃ va vc, u7 = Value.slice va K.length vc := by
          rcases HO.out.2 with ⟨h1, h2⟩ | ⟨g, cp, cur, h1, _⟩
          · exact ⟨none, 0, by rw [h1, h2]⟩
          · exact ⟨_, _, h1⟩
        have HKL : Hid (K.length ≤ 100000) := hidn (by have := (HS.out.len HRA.out HRB.out); have := HLA.out; have := HLB.out; omega)
        clear hin hla hlb hN hia hib hr cA cB hAe hBe
        go_wp2_with fail
        refine HLE.out.mono ?_
        clear HLE
        rintro e w4 ⟨rfl, b4⟩
        have B4 := HB.out.trans (b4.mono HB.out.size)
        have O4 := own_skip HO.out b4
        have cA4 := (b4.cell (block_lt_of_cell cA2)).trans cA2
        have cB4 := (b4.cell (block_lt_of_cell cB2)).trans cB2
        clear cA2
        clear cB2
        have HB4 := hidn B4
        have HO4 := hidn O4
        clear B4 O4 b4 HO
        go_wp2_with fail
        refine (HKE.out w4).mono ?_
        rintro e w5 ⟨rfl, rfl⟩
        cases r with
        | true =>
          obtain ⟨wB, hwB⟩ : ∃ wB, wB = w5.alloc (.cells #[.int .i64 N] 3) := ⟨_, rfl⟩
          have bB : Below w5.heap.size w5 wB := by rw [hwB]; exact (Below.refl _ w5).alloc (Nat.le_refl _) _
          have qB : wB.heap[w5.heap.size]? = some (.cells #[.int .i64 N] 3 (0, 0)) := by rw [hwB]; exact heap_alloc_new w5 _
          have BB := HB4.out.trans (bB.mono HB4.out.size)
          have O2 := own_skip HO4.out bB
          obtain ⟨v3, w3, hrun, hown3, hgr3⟩ := appAny wB w2.heap.size 22 22 3 i1 z1 1 8 Tryz.underlying22 hi1 hy0 hy1 hy2 hyc (by decide) u7 K.length (ivs K) O2 BB.size (some ⟨w5.heap.size, 0, none⟩) 1 1 [.int .i64 N] rfl (fun e => by cases e) (fun x hx j u hu => by
            cases hx
            rw [add_none, Nat.zero_add, cell_of_row _ _ _ _ _ _ qB]
            simpa using hu) (fun u hu => by
            simp at hu
            rw [hu]
            rfl) (by have := HKL.out; unfold maxLen; omega) (by have := HKL.out; omega)
          have HB3 := hidn (BB.grown hgr3 BB.size (fun k hk => (O2.lt k hk).1))
          have HO3 : Hid (w3.ownsRow w2.heap.size 3 1 v3 (K ++ [N]).length (ivs (K ++ [N]))) := hidn (by
            rw [ivs_append, List.length_append]
            exact hown3)
          have HRUN := hidn hrun
          have HWB := hidn hwB
          subst e9
          clear hrun hown3 hgr3 O2 bB qB hwB BB HO4
          go_wp2_with (at_builtin; rw [← HWB.out]; refine wpList_app_runA rfl _ _ 22 22 rfl rfl _ _ _ rfl rfl HRUN.out ?_; clear HRUN)
          refine (HBA.out w3 HB3.out).mono ?_
          rintro e w6 ⟨a6, n6, c6, rfl, hI6, hc6, hl6, rfl⟩
          have HI6 := hidn hI6
          have HL6 := hidn hl6
          clear hI6 hl6
          go_wp2_with fail
          refine (HBB.out w6 HB3.out).mono ?_
          rintro e w7 ⟨a7, n7, c7, rfl, hI7, hc7, hl7, rfl⟩
          have HI7 := hidn hI7
          have HL7 := hidn hl7
          clear hI7 hl7
          go_wp2_with fail
          refine ⟨⟨_, _, _, a6, a7, n6, n7, c6, c7, rfl, rfl, HST, HI6, HI7, hidn hc6, hidn hc7, HO3, HB3⟩, ?_⟩
          have h6 := HL6.out
          have h7 := HL7.out
          have h8 := HLT.out
          show n6 + n7 < n + m
          exact sift_meas _ _ _ _ _ _ h6 h7 h8 (fun _ => hn0) (fun _ => hm0)
        | false =>
          have HO9 := HO4
          subst e9
          go_wp2_with fail
          refine (HBA.out w5 HB4.out).mono ?_
          rintro e w6 ⟨a6, n6, c6, rfl, hI6, hc6, hl6, rfl⟩
          have HI6 := hidn hI6
          have HL6 := hidn hl6
          clear hI6 hl6
          go_wp2_with fail
          refine (HBB.out w6 HB4.out).mono ?_
          rintro e w7 ⟨a7, n7, c7, rfl, hI7, hc7, hl7, rfl⟩
          have HI7 := hidn hI7
          have HL7 := hidn hl7
          clear hI7 hl7
          go_wp2_with fail
          refine ⟨⟨_, _, _, a6, a7, n6, n7, c6, c7, rfl, rfl, HST, HI6, HI7, hidn hc6, hidn hc7, HO9, HB4⟩, ?_⟩
          have h6 := HL6.out
          have h7 := HL7.out
          have h8 := HLT.out
          show n6 + n7 < n + m
          exact sift_meas _ _ _ _ _ _ h6 h7 h8 (fun _ => hn0) (fun _ => hm0)

theorem ixUnion_any (a b : Option Addr) (la ca lb cb : Nat) (l1 l2 : List Int) (w : World) (h1 : Ils w a la l1) (h2 : Ils w b lb l2) (hm1 : la ≤ 1000) (hm2 : lb ≤ 1000) :
    Calls Tryz.prog 6 #[.slice a la ca, .slice b lb cb] w (SiftP inEitherS l1 l2 w) := by
  have H := hidn (sift_inEither a b la ca lb cb l1 l2 w h1 h2 hm1 hm2)
  clear h1 h2
  go_enter Tryz.func6, Tryz.ntmps6
  go_wp2_with fail
  refine H.out.mono ?_
  rintro e w1 ⟨L, v, rfl, ho, hL, hl, hb⟩
  have HO := hidn ho
  have HL := hidn hL
  have HN := hidn hl
  have HB := hidn hb
  clear ho hL hl hb
  go_wp2_with fail
  go_ret
  exact ⟨L, v, rfl, HO.out, HL.out, HN.out, HB.out⟩

end Go.Proofs.YtiffbbcgailmnaaGreatDoor

namespace Go.Proofs.YtiffbbcgailmnaaGreatDoor
open Go.RowKit Go.Joins
set_option linter.unusedVariables false

set_option maxHeartbeats 4000000 in
set_option maxRecDepth 100000 in
theorem sift_inBoth (a b : Option Addr) (la ca0 lb cb0 : Nat) (l1 l2 : List Int) (w : World) (h1 : Ils w a la l1) (h2 : Ils w b lb l2) (hm1 : la ≤ 1000) (hm2 : lb ≤ 1000) :
    Calls Tryz.prog 13 #[.slice a la ca0, .slice b lb cb0, .func (.func 16) #[] #[]] w (SiftP inBothS l1 l2 w) := by
  obtain ⟨i1, z1, hi1, hy0, hy1, hy2, hyc⟩ := iInfo
  have H1 := hidn (ixRising_any a la ca0 l1 w h1 hm1)
  have H2 := hidn (fun w2 (b2 : Below w.heap.size w w2) => ixRising_any b lb cb0 l2 w2 (h2.below b2) hm2)
  obtain ⟨A, hA⟩ : ∃ A, A = riseS l1 := ⟨_, rfl⟩
  obtain ⟨B, hB⟩ : ∃ B, B = riseS l2 := ⟨_, rfl⟩
  have HRA : Hid (Rises A) := hidn (by rw [hA]; exact riseS_rises l1)
  have HRB : Hid (Rises B) := hidn (by rw [hB]; exact riseS_rises l2)
  have HLA : Hid (A.length ≤ 1000) := hidn (by rw [hA]; have := riseS_len l1; have := h1.1; omega)
  have HLB : Hid (B.length ≤ 1000) := hidn (by rw [hB]; have := riseS_len l2; have := h2.1; omega)
  have HLL : Hid (A.length ≤ l1.length ∧ B.length ≤ l2.length) := hidn (by rw [hA, hB]; exact ⟨riseS_len l1, riseS_len l2⟩)
  have HMA : Hid (∀ x, x ∈ A ↔ x ∈ l1) := hidn (by rw [hA]; exact riseS_mem l1)
  have HMB : Hid (∀ x, x ∈ B ↔ x ∈ l2) := hidn (by rw [hB]; exact riseS_mem l2)
  rw [← hA] at H1
  rw [← hB] at H2
  clear h1 h2 hA hB
  go_enter Tryz.func13, Tryz.ntmps13
  go_wp2_with fail
  refine H1.out.mono ?_
  rintro e w1 ⟨aa, ca, rfl, hIA, hca, b1⟩
  have HIA1 := hidn hIA
  have HB1 := hidn b1
  clear hIA b1 H1
  go_wp2_with fail
  refine (H2.out w1 HB1.out).mono ?_
  rintro e w2 ⟨ba, cb, rfl, hIB, hcb, b2⟩
  have HIB0 := hidn hIB
  have HIA0 := hidn (HIA1.out.below b2)
  have HB2 := hidn (HB1.out.trans (b2.mono HB1.out.size))
  have HCA0 := hidn hca
  have HCB0 := hidn hcb
  clear hIB b2 H2 hca hcb HIA1
  go_wp2_with fail
  go_loopw [0, 1, 7] (fun av bv kv wr => ∃ (A' B' K : List Int) (aa ba : Option Addr) (n m ca cb : Nat), av = .slice aa n ca ∧ bv = .slice ba m cb ∧ Hid (SiftI inBothS A B A' B' K) ∧ Hid (Ils w2 aa n A') ∧ Hid (Ils w2 ba m B') ∧ Hid (n ≤ ca) ∧ Hid (m ≤ cb) ∧ Hid (wr.ownsRow w2.heap.size 3 1 kv K.length (ivs K)) ∧ Hid (Below w2.heap.size w2 wr)) (fun av bv _ _ => slN9 av + slN9 bv)
  case atStart => exact ⟨A, B, [], aa, ba, _, _, ca, cb, rfl, rfl, hidn (SiftI.start _ A B), HIA0, HIB0, HCA0, HCB0, hidn (World.ownsRow_nil _ _ _ _), hidn (Below.refl _ _)⟩
  case round =>
    obtain ⟨A', B', K, aa, ba, n, m, ca, cb, rfl, rfl, HS, HIA, HIB, HCA, HCB, HO, HB⟩ := hrel
    cases hAe : A' with
    | nil =>
      cases hBe : B' with
      | nil =>
        have hn0 : n = 0 := (show Ils w2 aa n [] from by rw [← hAe]; exact HIA.out).nilI
        have hm0 : m = 0 := (show Ils w2 ba m [] from by rw [← hBe]; exact HIB.out).nilI
        subst hn0
        subst hm0
        have hS9 := HS.out
        rw [hAe, hBe] at hS9
        have hD := hS9.done
        have hLn := HS.out.len HRA.out HRB.out
        have HD := hidn hD
        have HLN := hidn hLn
        clear hD hLn hS9 hAe hBe
        go_wp2_with fail
        go_ret
        refine ⟨K, _, rfl, own_lower HO.out HB2.out.size, ⟨HD.out.1, fun x => ?_⟩, ?_, HB2.out.trans (HB.out.mono HB2.out.size)⟩
        · rw [HD.out.2 x]
          have e1 : decide (x ∈ A) = decide (x ∈ l1) := decide_eq_decide.2 (HMA.out x)
          have e2 : decide (x ∈ B) = decide (x ∈ l2) := decide_eq_decide.2 (HMB.out x)
          rw [e1, e2, HMA.out x, HMB.out x]
        · have := HLN.out
          have := HLL.out
          omega
      | cons xb tb =>
        have HLE := hidn (least_any aa ba n ca m cb A' B' wr (HIA.out.below HB.out) (HIB.out.below HB.out) (.inr (by rw [hBe]; simp)))
        obtain ⟨hin, hla, hlb⟩ := leastS_spec (HS.out.riseA HRA.out) (HS.out.riseB HRB.out) ((.inr (by rw [hBe]; simp)) : A' ≠ [] ∨ B' ≠ [])
        have HST := hidn (HS.out.step HRA.out HRB.out _ hin hla hlb)
        obtain ⟨N, hN⟩ : ∃ N, N = leastS A' B' := ⟨_, rfl⟩
        rw [← hN] at HLE HST hin hla hlb
        obtain ⟨ia, hia⟩ : ∃ ia, headIs N A' = ia := ⟨_, rfl⟩
        obtain ⟨ib, hib⟩ : ∃ ib, headIs N B' = ib := ⟨_, rfl⟩
        have HBA := hidn (fun w9 (b9 : Below w2.heap.size w2 w9) => behind_any aa n ca A' ia w2 w9 HIA.out b9 HCA.out (fun e => by rw [hAe] at hia; rw [← hia] at e; cases e))
        have HBB := hidn (fun w9 (b9 : Below w2.heap.size w2 w9) => behind_any ba m cb B' ib w2 w9 HIB.out b9 HCB.out (fun e => by rw [hBe]; simp))
        rw [show (if ia then A'.tail else A') = behindS N A' from by rw [← hia]; exact behind_if N A'] at HBA
        rw [show (if ib then B'.tail else B') = behindS N B' from by rw [← hib]; exact behind_if N B'] at HBB
        rw [hia, hib] at HST
        have hn0 : n = 0 := (show Ils w2 aa n [] from by rw [← hAe]; exact HIA.out).nilI
        subst hn0
        have hia2 : ia = false := by rw [← hia, hAe]; rfl
        subst hia2
        obtain ⟨hm0, gb, ob, rfl, cB⟩ := (show Ils w2 ba m (xb :: tb) from by rw [← hBe]; exact HIB.out).headI
        have cB2 := (HB.out.cell (block_lt_of_cell cB)).trans cB
        have hmi : (0 : Int) < (m : Int) := by omega
        have hxb : (xb == N) = ib := by rw [← hib, hBe]; rfl
        obtain ⟨r, hr⟩ : ∃ r, inBothS false ib = r := ⟨_, rfl⟩
        have HKE := hidn (inBoth_any false ib)
        rw [hr] at HST HKE
        have HLT : Hid (false = true ∨ ib = true) := hidn (by
          rcases hin with e | e
          · left; rw [hAe] at e; cases e
          · right; rw [← hib, head_mem (HS.out.riseB HRB.out) hlb]; simpa using e)
        obtain ⟨va, vc, e9⟩ : ∃ va vc, u7 = Value.slice va K.length vc := by
          rcases HO.out.2 with ⟨h1, h2⟩ | ⟨g, cp, cur, h1, _⟩
          · exact ⟨none, 0, by rw [h1, h2]⟩
          · exact ⟨_, _, h1⟩
        have HKL : Hid (K.length ≤ 100000) := hidn (by have := (HS.out.len HRA.out HRB.out); have := HLA.out; have := HLB.out; omega)
        clear hin hla hlb hN hia hib hr cB hAe hBe
        go_wp2_with fail
        refine HLE.out.mono ?_
        clear HLE
        rintro e w4 ⟨rfl, b4⟩
        have B4 := HB.out.trans (b4.mono HB.out.size)
        have O4 := own_skip HO.out b4
        have cB4 := (b4.cell (block_lt_of_cell cB2)).trans cB2
        clear cB2
        have HB4 := hidn B4
        have HO4 := hidn O4
        clear B4 O4 b4 HO
        go_wp2_with fail
        refine (HKE.out w4).mono ?_
        rintro e w5 ⟨rfl, rfl⟩
        cases r with
        | true =>
          obtain ⟨wB, hwB⟩ : ∃ wB, wB = w5.alloc (.cells #[.int .i64 N] 3) := ⟨_, rfl⟩
          have bB : Below w5.heap.size w5 wB := by rw [hwB]; exact (Below.refl _ w5).alloc (Nat.le_refl _) _
          have qB : wB.heap[w5.heap.size]? = some (.cells #[.int .i64 N] 3 (0, 0)) := by rw [hwB]; exact heap_alloc_new w5 _
          have BB := HB4.out.trans (bB.mono HB4.out.size)
          have O2 := own_skip HO4.out bB
          obtain ⟨v3, w3, hrun, hown3, hgr3⟩ := appAny wB w2.heap.size 22 22 3 i1 z1 1 8 Tryz.underlying22 hi1 hy0 hy1 hy2 hyc (by decide) u7 K.length (ivs K) O2 BB.size (some ⟨w5.heap.size, 0, none⟩) 1 1 [.int .i64 N] rfl (fun e => by cases e) (fun x hx j u hu => by
            cases hx
            rw [add_none, Nat.zero_add, cell_of_row _ _ _ _ _ _ qB]
            simpa using hu) (fun u hu => by
            simp at hu
            rw [hu]
            rfl) (by have := HKL.out; unfold maxLen; omega) (by have := HKL.out; omega)
          have HB3 := hidn (BB.grown hgr3 BB.size (fun k hk => (O2.lt k hk).1))
          have HO3 : Hid (w3.ownsRow w2.heap.size 3 1 v3 (K ++ [N]).length (ivs (K ++ [N]))) := hidn (by
            rw [ivs_append, List.length_append]
            exact hown3)
          have HRUN := hidn hrun
          have HWB := hidn hwB
          subst e9
          clear hrun hown3 hgr3 O2 bB qB hwB BB HO4
          go_wp2_with (at_builtin; rw [← HWB.out]; refine wpList_app_runA rfl _ _ 22 22 rfl rfl _ _ _ rfl rfl HRUN.out ?_; clear HRUN)
          refine (HBA.out w3 HB3.out).mono ?_
          rintro e w6 ⟨a6, n6, c6, rfl, hI6, hc6, hl6, rfl⟩
          have HI6 := hidn hI6
          have HL6 := hidn hl6
          clear hI6 hl6
          go_wp2_with fail
          refine (HBB.out w6 HB3.out).mono ?_
          rintro e w7 ⟨a7, n7, c7, rfl, hI7, hc7, hl7, rfl⟩
          have HI7 := hidn hI7
          have HL7 := hidn hl7
          clear hI7 hl7
          go_wp2_with fail
          refine ⟨⟨_, _, _, a6, a7, n6, n7, c6, c7, rfl, rfl, HST, HI6, HI7, hidn hc6, hidn hc7, HO3, HB3⟩, ?_⟩
          have h6 := HL6.out
          have h7 := HL7.out
          have h8 := HLT.out
          show n6 + n7 < 0 + m
          exact sift_meas _ _ _ _ _ _ h6 h7 h8 (fun e => by cases e) (fun _ => hm0)
        | false =>
          have HO9 := HO4
          subst e9
          go_wp2_with fail
          refine (HBA.out w5 HB4.out).mono ?_
          rintro e w6 ⟨a6, n6, c6, rfl, hI6, hc6, hl6, rfl⟩
          have HI6 := hidn hI6
          have HL6 := hidn hl6
          clear hI6 hl6
          go_wp2_with fail
          refine (HBB.out w6 HB4.out).mono ?_
          rintro e w7 ⟨a7, n7, c7, rfl, hI7, hc7, hl7, rfl⟩
          have HI7 := hidn hI7
          have HL7 := hidn hl7
          clear hI7 hl7
          go_wp2_with fail
          refine ⟨⟨_, _, _, a6, a7, n6, n7, c6, c7, rfl, rfl, HST, HI6, HI7, hidn hc6, hidn hc7, HO9, HB4⟩, ?_⟩
          have h6 := HL6.out
          have h7 := HL7.out
          have h8 := HLT.out
          show n6 + n7 < 0 + m
          exact sift_meas _ _ _ _ _ _ h6 h7 h8 (fun e => by cases e) (fun _ => hm0)
    | cons xa ta =>
      cases hBe : B' with
      | nil =>
        have HLE := hidn (least_any aa ba n ca m cb A' B' wr (HIA.out.below HB.out) (HIB.out.below HB.out) (.inl (by rw [hAe]; simp)))
        obtain ⟨hin, hla, hlb⟩ := leastS_spec (HS.out.riseA HRA.out) (HS.out.riseB HRB.out) ((.inl (by rw [hAe]; simp)) : A' ≠ [] ∨ B' ≠ [])
        have HST := hidn (HS.out.step HRA.out HRB.out _ hin hla hlb)
        obtain ⟨N, hN⟩ : ∃ N, N = leastS A' B' := ⟨_, rfl⟩
        rw [← hN] at HLE HST hin hla hlb
        obtain ⟨ia, hia⟩ : ∃ ia, headIs N A' = ia := ⟨_, rfl⟩
        obtain ⟨ib, hib⟩ : ∃ ib, headIs N B' = ib := ⟨_, rfl⟩
        have HBA := hidn (fun w9 (b9 : Below w2.heap.size w2 w9) => behind_any aa n ca A' ia w2 w9 HIA.out b9 HCA.out (fun e => by rw [hAe]; simp))
        have HBB := hidn (fun w9 (b9 : Below w2.heap.size w2 w9) => behind_any ba m cb B' ib w2 w9 HIB.out b9 HCB.out (fun e => by rw [hBe] at hib; rw [← hib] at e; cases e))
        rw [show (if ia then A'.tail else A') = behindS N A' from by rw [← hia]; exact behind_if N A'] at HBA
        rw [show (if ib then B'.tail else B') = behindS N B' from by rw [← hib]; exact behind_if N B'] at HBB
        rw [hia, hib] at HST
        obtain ⟨hn0, ga, oa, rfl, cA⟩ := (show Ils w2 aa n (xa :: ta) from by rw [← hAe]; exact HIA.out).headI
        have cA2 := (HB.out.cell (block_lt_of_cell cA)).trans cA
        have hni : (0 : Int) < (n : Int) := by omega
        have hxa : (xa == N) = ia := by rw [← hia, hAe]; rfl
        have hm0 : m = 0 := (show Ils w2 ba m [] from by rw [← hBe]; exact HIB.out).nilI
        subst hm0
        have hib2 : ib = false := by rw [← hib, hBe]; rfl
        subst hib2
        obtain ⟨r, hr⟩ : ∃ r, inBothS ia false = r := ⟨_, rfl⟩
        have HKE := hidn (inBoth_any ia false)
        rw [hr] at HST HKE
        have HLT : Hid (ia = true ∨ false = true) := hidn (by
          rcases hin with e | e
          · left; rw [← hia, head_mem (HS.out.riseA HRA.out) hla]; simpa using e
          · right; rw [hBe] at e; cases e)
        obtain ⟨va, vc, e9⟩ : ∃ va vc, u7 = Value.slice va K.length vc := by
          rcases HO.out.2 with ⟨h1, h2⟩ | ⟨g, cp, cur, h1, _⟩
          · exact ⟨none, 0, by rw [h1, h2]⟩
          · exact ⟨_, _, h1⟩
        have HKL : Hid (K.length ≤ 100000) := hidn (by have := (HS.out.len HRA.out HRB.out); have := HLA.out; have := HLB.out; omega)
        clear hin hla hlb hN hia hib hr cA hAe hBe
        go_wp2_with fail
        refine HLE.out.mono ?_
        clear HLE
        rintro e w4 ⟨rfl, b4⟩
        have B4 := HB.out.trans (b4.mono HB.out.size)
        have O4 := own_skip HO.out b4
        have cA4 := (b4.cell (block_lt_of_cell cA2)).trans cA2
        clear cA2
        have HB4 := hidn B4
        have HO4 := hidn O4
        clear B4 O4 b4 HO
        go_wp2_with fail
        refine (HKE.out w4).mono ?_
        rintro e w5 ⟨rfl, rfl⟩
        cases r with
        | true =>
          obtain ⟨wB, hwB⟩ : ∃ wB, wB = w5.alloc (.cells #[.int .i64 N] 3) := ⟨_, rfl⟩
          have bB : Below w5.heap.size w5 wB := by rw [hwB]; exact (Below.refl _ w5).alloc (Nat.le_refl _) _
          have qB : wB.heap[w5.heap.size]? = some (.cells #[.int .i64 N] 3 (0, 0)) := by rw [hwB]; exact heap_alloc_new w5 _
          have BB := HB4.out.trans (bB.mono HB4.out.size)
          have O2 := own_skip HO4.out bB
          obtain ⟨v3, w3, hrun, hown3, hgr3⟩ := appAny wB w2.heap.size 22 22 3 i1 z1 1 8 Tryz.underlying22 hi1 hy0 hy1 hy2 hyc (by decide) u7 K.length (ivs K) O2 BB.size (some ⟨w5.heap.size, 0, none⟩) 1 1 [.int .i64 N] rfl (fun e => by cases e) (fun x hx j u hu => by
            cases hx
            rw [add_none, Nat.zero_add, cell_of_row _ _ _ _ _ _ qB]
            simpa using hu) (fun u hu => by
            simp at hu
            rw [hu]
            rfl) (by have := HKL.out; unfold maxLen; omega) (by have := HKL.out; omega)
          have HB3 := hidn (BB.grown hgr3 BB.size (fun k hk => (O2.lt k hk).1))
          have HO3 : Hid (w3.ownsRow w2.heap.size 3 1 v3 (K ++ [N]).length (ivs (K ++ [N]))) := hidn (by
            rw [ivs_append, List.length_append]
            exact hown3)
          have HRUN := hidn hrun
          have HWB := hidn hwB
          subst e9
          clear hrun hown3 hgr3 O2 bB qB hwB BB HO4
          go_wp2_with (at_builtin; rw [← HWB.out]; refine wpList_app_runA rfl _ _ 22 22 rfl rfl _ _ _ rfl rfl HRUN.out ?_; clear HRUN)
          refine (HBA.out w3 HB3.out).mono ?_
          rintro e w6 ⟨a6, n6, c6, rfl, hI6, hc6, hl6, rfl⟩
          have HI6 := hidn hI6
          have HL6 := hidn hl6
          clear hI6 hl6
          go_wp2_with fail
          refine (HBB.out w6 HB3.out).mono ?_
          rintro e w7 ⟨a7, n7, c7, rfl, hI7, hc7, hl7, rfl⟩
          have HI7 := hidn hI7
          have HL7 := hidn hl7
          clear hI7 hl7
          go_wp2_with fail
          refine ⟨⟨_, _, _, a6, a7, n6, n7, c6, c7, rfl, rfl, HST, HI6, HI7, hidn hc6, hidn hc7, HO3, HB3⟩, ?_⟩
          have h6 := HL6.out
          have h7 := HL7.out
          have h8 := HLT.out
          show n6 + n7 < n + 0
          exact sift_meas _ _ _ _ _ _ h6 h7 h8 (fun _ => hn0) (fun e => by cases e)
        | false =>
          have HO9 := HO4
          subst e9
          go_wp2_with fail
          refine (HBA.out w5 HB4.out).mono ?_
          rintro e w6 ⟨a6, n6, c6, rfl, hI6, hc6, hl6, rfl⟩
          have HI6 := hidn hI6
          have HL6 := hidn hl6
          clear hI6 hl6
          go_wp2_with fail
          refine (HBB.out w6 HB4.out).mono ?_
          rintro e w7 ⟨a7, n7, c7, rfl, hI7, hc7, hl7, rfl⟩
          have HI7 := hidn hI7
          have HL7 := hidn hl7
          clear hI7 hl7
          go_wp2_with fail
          refine ⟨⟨_, _, _, a6, a7, n6, n7, c6, c7, rfl, rfl, HST, HI6, HI7, hidn hc6, hidn hc7, HO9, HB4⟩, ?_⟩
          have h6 := HL6.out
          have h7 := HL7.out
          have h8 := HLT.out
          show n6 + n7 < n + 0
          exact sift_meas _ _ _ _ _ _ h6 h7 h8 (fun _ => hn0) (fun e => by cases e)
      | cons xb tb =>
        have HLE := hidn (least_any aa ba n ca m cb A' B' wr (HIA.out.below HB.out) (HIB.out.below HB.out) (.inl (by rw [hAe]; simp)))
        obtain ⟨hin, hla, hlb⟩ := leastS_spec (HS.out.riseA HRA.out) (HS.out.riseB HRB.out) ((.inl (by rw [hAe]; simp)) : A' ≠ [] ∨ B' ≠ [])
        have HST := hidn (HS.out.step HRA.out HRB.out _ hin hla hlb)
        obtain ⟨N, hN⟩ : ∃ N, N = leastS A' B' := ⟨_, rfl⟩
        rw [← hN] at HLE HST hin hla hlb
        obtain ⟨ia, hia⟩ : ∃ ia, headIs N A' = ia := ⟨_, rfl⟩
        obtain ⟨ib, hib⟩ : ∃ ib, headIs N B' = ib := ⟨_, rfl⟩
        have HBA := hidn (fun w9 (b9 : Below w2.heap.size w2 w9) => behind_any aa n ca A' ia w2 w9 HIA.out b9 HCA.out (fun e => by rw [hAe]; simp))
        have HBB := hidn (fun w9 (b9 : Below w2.heap.size w2 w9) => behind_any ba m cb B' ib w2 w9 HIB.out b9 HCB.out (fun e => by rw [hBe]; simp))
        rw [show (if ia then A'.tail else A') = behindS N A' from by rw [← hia]; exact behind_if N A'] at HBA
        rw [show (if ib then B'.tail else B') = behindS N B' from by rw [← hib]; exact behind_if N B'] at HBB
        rw [hia, hib] at HST
        obtain ⟨hn0, ga, oa, rfl, cA⟩ := (show Ils w2 aa n (xa :: ta) from by rw [← hAe]; exact HIA.out).headI
        have cA2 := (HB.out.cell (block_lt_of_cell cA)).trans cA
        have hni : (0 : Int) < (n : Int) := by omega
        have hxa : (xa == N) = ia := by rw [← hia, hAe]; rfl
        obtain ⟨hm0, gb, ob, rfl, cB⟩ := (show Ils w2 ba m (xb :: tb) from by rw [← hBe]; exact HIB.out).headI
        have cB2 := (HB.out.cell (block_lt_of_cell cB)).trans cB
        have hmi : (0 : Int) < (m : Int) := by omega
        have hxb : (xb == N) = ib := by rw [← hib, hBe]; rfl
        obtain ⟨r, hr⟩ : ∃ r, inBothS ia ib = r := ⟨_, rfl⟩
        have HKE := hidn (inBoth_any ia ib)
        rw [hr] at HST HKE
        have HLT : Hid (ia = true ∨ ib = true) := hidn (by
          rcases hin with e | e
          · left; rw [← hia, head_mem (HS.out.riseA HRA.out) hla]; simpa using e
          · right; rw [← hib, head_mem (HS.out.riseB HRB.out) hlb]; simpa using e)
        obtain ⟨va, vc, e9⟩ : ∃ va vc, u7 = Value.slice va K.length vc := by
          rcases HO.out.2 with ⟨h1, h2⟩ | ⟨g, cp, cur, h1, _⟩
          · exact ⟨none, 0, by rw [h1, h2]⟩
          · exact ⟨_, _, h1⟩
        have HKL : Hid (K.length ≤ 100000) := hidn (by have := (HS.out.len HRA.out HRB.out); have := HLA.out; have := HLB.out; omega)
        clear hin hla hlb hN hia hib hr cA cB hAe hBe
        go_wp2_with fail
        refine HLE.out.mono ?_
        clear HLE
        rintro e w4 ⟨rfl, b4⟩
        have B4 := HB.out.trans (b4.mono HB.out.size)
        have O4 := own_skip HO.out b4
        have cA4 := (b4.cell (block_lt_of_cell cA2)).trans cA2
        have cB4 := (b4.cell (block_lt_of_cell cB2)).trans cB2
        clear cA2
        clear cB2
        have HB4 := hidn B4
        have HO4 := hidn O4
        clear B4 O4 b4 HO
        go_wp2_with fail
        refine (HKE.out w4).mono ?_
        rintro e w5 ⟨rfl, rfl⟩
        cases r with
        | true =>
          obtain ⟨wB, hwB⟩ : ∃ wB, wB = w5.alloc (.cells #[.int .i64 N] 3) := ⟨_, rfl⟩
          have bB : Below w5.heap.size w5 wB := by rw [hwB]; exact (Below.refl _ w5).alloc (Nat.le_refl _) _
          have qB : wB.heap[w5.heap.size]? = some (.cells #[.int .i64 N] 3 (0, 0)) := by rw [hwB]; exact heap_alloc_new w5 _
          have BB := HB4.out.trans (bB.mono HB4.out.size)
          have O2 := own_skip HO4.out bB
          obtain ⟨v3, w3, hrun, hown3, hgr3⟩ := appAny wB w2.heap.size 22 22 3 i1 z1 1 8 Tryz.underlying22 hi1 hy0 hy1 hy2 hyc (by decide) u7 K.length (ivs K) O2 BB.size (some ⟨w5.heap.size, 0, none⟩) 1 1 [.int .i64 N] rfl (fun e => by cases e) (fun x hx j u hu => by
            cases hx
            rw [add_none, Nat.zero_add, cell_of_row _ _ _ _ _ _ qB]
            simpa using hu) (fun u hu => by
            simp at hu
            rw [hu]
            rfl) (by have := HKL.out; unfold maxLen; omega) (by have := HKL.out; omega)
          have HB3 := hidn (BB.grown hgr3 BB.size (fun k hk => (O2.lt k hk).1))
          have HO3 : Hid (w3.ownsRow w2.heap.size 3 1 v3 (K ++ [N]).length (ivs (K ++ [N]))) := hidn (by
            rw [ivs_append, List.length_append]
            exact hown3)
          have HRUN := hidn hrun
          have HWB := hidn hwB
          subst e9
          clear hrun hown3 hgr3 O2 bB qB hwB BB HO4
          go_wp2_with (at_builtin; rw [← HWB.out]; refine wpList_app_runA rfl _ _ 22 22 rfl rfl _ _ _ rfl rfl HRUN.out ?_; clear HRUN)
          refine (HBA.out w3 HB3.out).mono ?_
          rintro e w6 ⟨a6, n6, c6, rfl, hI6, hc6, hl6, rfl⟩
          have HI6 := hidn hI6
          have HL6 := hidn hl6
          clear hI6 hl6
          go_wp2_with fail
          refine (HBB.out w6 HB3.out).mono ?_
          rintro e w7 ⟨a7, n7, c7, rfl, hI7, hc7, hl7, rfl⟩
          have HI7 := hidn hI7
          have HL7 := hidn hl7
          clear hI7 hl7
          go_wp2_with fail
          refine ⟨⟨_, _, _, a6, a7, n6, n7, c6, c7, rfl, rfl, HST, HI6, HI7, hidn hc6, hidn hc7, HO3, HB3⟩, ?_⟩
          have h6 := HL6.out
          have h7 := HL7.out
          have h8 := HLT.out
          show n6 + n7 < n + m
          exact sift_meas _ _ _ _ _ _ h6 h7 h8 (fun _ => hn0) (fun _ => hm0)
        | false =>
          have HO9 := HO4
          subst e9
          go_wp2_with fail
          refine (HBA.out w5 HB4.out).mono ?_
          rintro e w6 ⟨a6, n6, c6, rfl, hI6, hc6, hl6, rfl⟩
          have HI6 := hidn hI6
          have HL6 := hidn hl6
          clear hI6 hl6
          go_wp2_with fail
          refine (HBB.out w6 HB4.out).mono ?_
          rintro e w7 ⟨a7, n7, c7, rfl, hI7, hc7, hl7, rfl⟩
          have HI7 := hidn hI7
          have HL7 := hidn hl7
          clear hI7 hl7
          go_wp2_with fail
          refine ⟨⟨_, _, _, a6, a7, n6, n7, c6, c7, rfl, rfl, HST, HI6, HI7, hidn hc6, hidn hc7, HO9, HB4⟩, ?_⟩
          have h6 := HL6.out
          have h7 := HL7.out
          have h8 := HLT.out
          show n6 + n7 < n + m
          exact sift_meas _ _ _ _ _ _ h6 h7 h8 (fun _ => hn0) (fun _ => hm0)

theorem ixMeet_any (a b : Option Addr) (la ca lb cb : Nat) (l1 l2 : List Int) (w : World) (h1 : Ils w a la l1) (h2 : Ils w b lb l2) (hm1 : la ≤ 1000) (hm2 : lb ≤ 1000) :
    Calls Tryz.prog 8 #[.slice a la ca, .slice b lb cb] w (SiftP inBothS l1 l2 w) := by
  have H := hidn (sift_inBoth a b la ca lb cb l1 l2 w h1 h2 hm1 hm2)
  clear h1 h2
  go_enter Tryz.func8, Tryz.ntmps8
  go_wp2_with fail
  refine H.out.mono ?_
  rintro e w1 ⟨L, v, rfl, ho, hL, hl, hb⟩
  have HO := hidn ho
  have HL := hidn hL
  have HN := hidn hl
  have HB := hidn hb
  clear ho hL hl hb
  go_wp2_with fail
  go_ret
  exact ⟨L, v, rfl, HO.out, HL.out, HN.out, HB.out⟩

end Go.Proofs.YtiffbbcgailmnaaGreatDoor

namespace Go.Proofs.YtiffbbcgailmnaaGreatDoor
open Go.RowKit Go.Joins
set_option linter.unusedVariables false

set_option maxHeartbeats 4000000 in
set_option maxRecDepth 100000 in
theorem sift_inFirstAlone (a b : Option Addr) (la ca0 lb cb0 : Nat) (l1 l2 : List Int) (w : World) (h1 : Ils w a la l1) (h2 : Ils w b lb l2) (hm1 : la ≤ 1000) (hm2 : lb ≤ 1000) :
    Calls Tryz.prog 13 #[.slice a la ca0, .slice b lb cb0, .func (.func 17) #[] #[]] w (SiftP inFirstAloneS l1 l2 w) := by
  obtain ⟨i1, z1, hi1, hy0, hy1, hy2, hyc⟩ := iInfo
  have H1 := hidn (ixRising_any a la ca0 l1 w h1 hm1)
  have H2 := hidn (fun w2 (b2 : Below w.heap.size w w2) => ixRising_any b lb cb0 l2 w2 (h2.below b2) hm2)
  obtain ⟨A, hA⟩ : ∃ A, A = riseS l1 := ⟨_, rfl⟩
  obtain ⟨B, hB⟩ : ∃ B, B = riseS l2 := ⟨_, rfl⟩
  have HRA : Hid (Rises A) := hidn (by rw [hA]; exact riseS_rises l1)
  have HRB : Hid (Rises B) := hidn (by rw [hB]; exact riseS_rises l2)
  have HLA : Hid (A.length ≤ 1000) := hidn (by rw [hA]; have := riseS_len l1; have := h1.1; omega)
  have HLB : Hid (B.length ≤ 1000) := hidn (by rw [hB]; have := riseS_len l2; have := h2.1; omega)
  have HLL : Hid (A.length ≤ l1.length ∧ B.length ≤ l2.length) := hidn (by rw [hA, hB]; exact ⟨riseS_len l1, riseS_len l2⟩)
  have HMA : Hid (∀ x, x ∈ A ↔ x ∈ l1) := hidn (by rw [hA]; exact riseS_mem l1)
  have HMB : Hid (∀ x, x ∈ B ↔ x ∈ l2) := hidn (by rw [hB]; exact riseS_mem l2)
  rw [← hA] at H1
  rw [← hB] at H2
  clear h1 h2 hA hB
  go_enter Tryz.func13, Tryz.ntmps13
  go_wp2_with fail
  refine H1.out.mono ?_
  rintro e w1 ⟨aa, ca, rfl, hIA, hca, b1⟩
  have HIA1 := hidn hIA
  have HB1 := hidn b1
  clear hIA b1 H1
  go_wp2_with fail
  refine (H2.out w1 HB1.out).mono ?_
  rintro e w2 ⟨ba, cb, rfl, hIB, hcb, b2⟩
  have HIB0 := hidn hIB
  have HIA0 := hidn (HIA1.out.below b2)
  have HB2 := hidn (HB1.out.trans (b2.mono HB1.out.size))
  have HCA0 := hidn hca
  have HCB0 := hidn hcb
  clear hIB b2 H2 hca hcb HIA1
  go_wp2_with fail
  go_loopw [0, 1, 7] (fun av bv kv wr => ∃ (A' B' K : List Int) (aa ba : Option Addr) (n m ca cb : Nat), av = .slice aa n ca ∧ bv = .slice ba m cb ∧ Hid (SiftI inFirstAloneS A B A' B' K) ∧ Hid (Ils w2 aa n A') ∧ Hid (Ils w2 ba m B') ∧ Hid (n ≤ ca) ∧ Hid (m ≤ cb) ∧ Hid (wr.ownsRow w2.heap.size 3 1 kv K.length (ivs K)) ∧ Hid (Below w2.heap.size w2 wr)) (fun av bv _ _ => slN9 av + slN9 bv)
  case atStart => exact ⟨A, B, [], aa, ba, _, _, ca, cb, rfl, rfl, hidn (SiftI.start _ A B), HIA0, HIB0, HCA0, HCB0, hidn (World.ownsRow_nil _ _ _ _), hidn (Below.refl _ _)⟩
  case round =>
    obtain ⟨A', B', K, aa, ba, n, m, ca, cb, rfl, rfl, HS, HIA, HIB, HCA, HCB, HO, HB⟩ := hrel
    cases hAe : A' with
    | nil =>
      cases hBe : B' with
      | nil =>
        have hn0 : n = 0 := (show Ils w2 aa n [] from by rw [← hAe]; exact HIA.out).nilI
        have hm0 : m = 0 := (show Ils w2 ba m [] from by rw [← hBe]; exact HIB.out).nilI
        subst hn0
        subst hm0
        have hS9 := HS.out
        rw [hAe, hBe] at hS9
        have hD := hS9.done
        have hLn := HS.out.len HRA.out HRB.out
        have HD := hidn hD
        have HLN := hidn hLn
        clear hD hLn hS9 hAe hBe
        go_wp2_with fail
        go_ret
        refine ⟨K, _, rfl, own_lower HO.out HB2.out.size, ⟨HD.out.1, fun x => ?_⟩, ?_, HB2.out.trans (HB.out.mono HB2.out.size)⟩
        · rw [HD.out.2 x]
          have e1 : decide (x ∈ A) = decide (x ∈ l1) := decide_eq_decide.2 (HMA.out x)
          have e2 : decide (x ∈ B) = decide (x ∈ l2) := decide_eq_decide.2 (HMB.out x)
          rw [e1, e2, HMA.out x, HMB.out x]
        · have := HLN.out
          have := HLL.out
          omega
      | cons xb tb =>
        have HLE := hidn (least_any aa ba n ca m cb A' B' wr (HIA.out.below HB.out) (HIB.out.below HB.out) (.inr (by rw [hBe]; simp)))
        obtain ⟨hin, hla, hlb⟩ := leastS_spec (HS.out.riseA HRA.out) (HS.out.riseB HRB.out) ((.inr (by rw [hBe]; simp)) : A' ≠ [] ∨ B' ≠ [])
        have HST := hidn (HS.out.step HRA.out HRB.out _ hin hla hlb)
        obtain ⟨N, hN⟩ : ∃ N, N = leastS A' B' := ⟨_, rfl⟩
        rw [← hN] at HLE HST hin hla hlb
        obtain ⟨ia, hia⟩ : ∃ ia, headIs N A' = ia := ⟨_, rfl⟩
        obtain ⟨ib, hib⟩ : ∃ ib, headIs N B' = ib := ⟨_, rfl⟩
        have HBA := hidn (fun w9 (b9 : Below w2.heap.size w2 w9) => behind_any aa n ca A' ia w2 w9 HIA.out b9 HCA.out (fun e => by rw [hAe] at hia; rw [← hia] at e; cases e))
        have HBB := hidn (fun w9 (b9 : Below w2.heap.size w2 w9) => behind_any ba m cb B' ib w2 w9 HIB.out b9 HCB.out (fun e => by rw [hBe]; simp))
        rw [show (if ia then A'.tail else A') = behindS N A' from by rw [← hia]; exact behind_if N A'] at HBA
        rw [show (if ib then B'.tail else B') = behindS N B' from by rw [← hib]; exact behind_if N B'] at HBB
        rw [hia, hib] at HST
        have hn0 : n = 0 := (show Ils w2 aa n [] from by rw [← hAe]; exact HIA.out).nilI
        subst hn0
        have hia2 : ia = false := by rw [← hia, hAe]; rfl
        subst hia2
        obtain ⟨hm0, gb, ob, rfl, cB⟩ := (show Ils w2 ba m (xb :: tb) from by rw [← hBe]; exact HIB.out).headI
        have cB2 := (HB.out.cell (block_lt_of_cell cB)).trans cB
        have hmi : (0 : Int) < (m : Int) := by omega
        have hxb : (xb == N) = ib := by rw [← hib, hBe]; rfl
        obtain ⟨r, hr⟩ : ∃ r, inFirstAloneS false ib = r := ⟨_, rfl⟩
        have HKE := hidn (inFirstAlone_any false ib)
        rw [hr] at HST HKE
        have HLT : Hid (false = true ∨ ib = true) := hidn (by
          rcases hin with e | e
          · left; rw [hAe] at e; cases e
          · right; rw [← hib, head_mem (HS.out.riseB HRB.out) hlb]; simpa using e)
        obtain ⟨va, vc, e9⟩ : ∃ va vc, u7 = Value.slice va K.length vc := by
          rcases HO.out.2 with ⟨h1, h2⟩ | ⟨g, cp, cur, h1, _⟩
          · exact ⟨none, 0, by rw [h1, h2]⟩
          · exact ⟨_, _, h1⟩
        have HKL : Hid (K.length ≤ 100000) := hidn (by have := (HS.out.len HRA.out HRB.out); have := HLA.out; have := HLB.out; omega)
        clear hin hla hlb hN hia hib hr cB hAe hBe
        go_wp2_with fail
        refine HLE.out.mono ?_
        clear HLE
        rintro e w4 ⟨rfl, b4⟩
        have B4 := HB.out.trans (b4.mono HB.out.size)
        have O4 := own_skip HO.out b4
        have cB4 := (b4.cell (block_lt_of_cell cB2)).trans cB2
        clear cB2
        have HB4 := hidn B4
        have HO4 := hidn O4
        clear B4 O4 b4 HO
        go_wp2_with fail
        refine (HKE.out w4).mono ?_
        rintro e w5 ⟨rfl, rfl⟩
        cases r with
        | true =>
          obtain ⟨wB, hwB⟩ : ∃ wB, wB = w5.alloc (.cells #[.int .i64 N] 3) := ⟨_, rfl⟩
          have bB : Below w5.heap.size w5 wB := by rw [hwB]; exact (Below.refl _ w5).alloc (Nat.le_refl _) _
          have qB : wB.heap[w5.heap.size]? = some (.cells #[.int .i64 N] 3 (0, 0)) := by rw [hwB]; exact heap_alloc_new w5 _
          have BB := HB4.out.trans (bB.mono HB4.out.size)
          have O2 := own_skip HO4.out bB
          obtain ⟨v3, w3, hrun, hown3, hgr3⟩ := appAny wB w2.heap.size 22 22 3 i1 z1 1 8 Tryz.underlying22 hi1 hy0 hy1 hy2 hyc (by decide) u7 K.length (ivs K) O2 BB.size (some ⟨w5.heap.size, 0, none⟩) 1 1 [.int .i64 N] rfl (fun e => by cases e) (fun x hx j u hu => by
            cases hx
            rw [add_none, Nat.zero_add, cell_of_row _ _ _ _ _ _ qB]
            simpa using hu) (fun u hu => by
            simp at hu
            rw [hu]
            rfl) (by have := HKL.out; unfold maxLen; omega) (by have := HKL.out; omega)
          have HB3 := hidn (BB.grown hgr3 BB.size (fun k hk => (O2.lt k hk).1))
          have HO3 : Hid (w3.ownsRow w2.heap.size 3 1 v3 (K ++ [N]).length (ivs (K ++ [N]))) := hidn (by
            rw [ivs_append, List.length_append]
            exact hown3)
          have HRUN := hidn hrun
          have HWB := hidn hwB
          subst e9
          clear hrun hown3 hgr3 O2 bB qB hwB BB HO4
          go_wp2_with (at_builtin; rw [← HWB.out]; refine wpList_app_runA rfl _ _ 22 22 rfl rfl _ _ _ rfl rfl HRUN.out ?_; clear HRUN)
          refine (HBA.out w3 HB3.out).mono ?_
          rintro e w6 ⟨a6, n6, c6, rfl, hI6, hc6, hl6, rfl⟩
          have HI6 := hidn hI6
          have HL6 := hidn hl6
          clear hI6 hl6
          go_wp2_with fail
          refine (HBB.out w6 HB3.out).mono ?_
          rintro e w7 ⟨a7, n7, c7, rfl, hI7, hc7, hl7, rfl⟩
          have HI7 := hidn hI7
          have HL7 := hidn hl7
          clear hI7 hl7
          go_wp2_with fail
          refine ⟨⟨_, _, _, a6, a7, n6, n7, c6, c7, rfl, rfl, HST, HI6, HI7, hidn hc6, hidn hc7, HO3, HB3⟩, ?_⟩
          have h6 := HL6.out
          have h7 := HL7.out
          have h8 := HLT.out
          show n6 + n7 < 0 + m
          exact sift_meas _ _ _ _ _ _ h6 h7 h8 (fun e => by cases e) (fun _ => hm0)
        | false =>
          have HO9 := HO4
          subst e9
          go_wp2_with fail
          refine (HBA.out w5 HB4.out).mono ?_
          rintro e w6 ⟨a6, n6, c6, rfl, hI6, hc6, hl6, rfl⟩
          have HI6 := hidn hI6
          have HL6 := hidn hl6
          clear hI6 hl6
          go_wp2_with fail
          refine (HBB.out w6 HB4.out).mono ?_
          rintro e w7 ⟨a7, n7, c7, rfl, hI7, hc7, hl7, rfl⟩
          have HI7 := hidn hI7
          have HL7 := hidn hl7
          clear hI7 hl7
          go_wp2_with fail
          refine ⟨⟨_, _, _, a6, a7, n6, n7, c6, c7, rfl, rfl, HST, HI6, HI7, hidn hc6, hidn hc7, HO9, HB4⟩, ?_⟩
          have h6 := HL6.out
          have h7 := HL7.out
          have h8 := HLT.out
          show n6 + n7 < 0 + m
          exact sift_meas _ _ _ _ _ _ h6 h7 h8 (fun e => by cases e) (fun _ => hm0)
    | cons xa ta =>
      cases hBe : B' with
      | nil =>
        have HLE := hidn (least_any aa ba n ca m cb A' B' wr (HIA.out.below HB.out) (HIB.out.below HB.out) (.inl (by rw [hAe]; simp)))
        obtain ⟨hin, hla, hlb⟩ := leastS_spec (HS.out.riseA HRA.out) (HS.out.riseB HRB.out) ((.inl (by rw [hAe]; simp)) : A' ≠ [] ∨ B' ≠ [])
        have HST := hidn (HS.out.step HRA.out HRB.out _ hin hla hlb)
        obtain ⟨N, hN⟩ : ∃ N, N = leastS A' B' := ⟨_, rfl⟩
        rw [← hN] at HLE HST hin hla hlb
        obtain ⟨ia, hia⟩ : ∃ ia, headIs N A' = ia := ⟨_, rfl⟩
        obtain ⟨ib, hib⟩ : ∃ ib, headIs N B' = ib := ⟨_, rfl⟩
        have HBA := hidn (fun w9 (b9 : Below w2.heap.size w2 w9) => behind_any aa n ca A' ia w2 w9 HIA.out b9 HCA.out (fun e => by rw [hAe]; simp))
        have HBB := hidn (fun w9 (b9 : Below w2.heap.size w2 w9) => behind_any ba m cb B' ib w2 w9 HIB.out b9 HCB.out (fun e => by rw [hBe] at hib; rw [← hib] at e; cases e))
        rw [show (if ia then A'.tail else A') = behindS N A' from by rw [← hia]; exact behind_if N A'] at HBA
        rw [show (if ib then B'.tail else B') = behindS N B' from by rw [← hib]; exact behind_if N B'] at HBB
        rw [hia, hib] at HST
        obtain ⟨hn0, ga, oa, rfl, cA⟩ := (show Ils w2 aa n (xa :: ta) from by rw [← hAe]; exact HIA.out).headI
        have cA2 := (HB.out.cell (block_lt_of_cell cA)).trans cA
        have hni : (0 : Int) < (n : Int) := by omega
        have hxa : (xa == N) = ia := by rw [← hia, hAe]; rfl
        have hm0 : m = 0 := (show Ils w2 ba m [] from by rw [← hBe]; exact HIB.out).nilI
        subst hm0
        have hib2 : ib = false := by rw [← hib, hBe]; rfl
        subst hib2
        obtain ⟨r, hr⟩ : ∃ r, inFirstAloneS ia false = r := ⟨_, rfl⟩
        have HKE := hidn (inFirstAlone_any ia false)
        rw [hr] at HST HKE
        have HLT : Hid (ia = true ∨ false = true) := hidn (by
          rcases hin with e | e
          · left; rw [← hia, head_mem (HS.out.riseA HRA.out) hla]; simpa using e
          · right; rw [hBe] at e; cases e)
        obtain ⟨va, vc, e9⟩ : ∃ va vc, u7 = Value.slice va K.length vc := by
          rcases HO.out.2 with ⟨h1, h2⟩ | ⟨g, cp, cur, h1, _⟩
          · exact ⟨none, 0, by rw [h1, h2]⟩
          · exact ⟨_, _, h1⟩
        have HKL : Hid (K.length ≤ 100000) := hidn (by have := (HS.out.len HRA.out HRB.out); have := HLA.out; have := HLB.out; omega)
        clear hin hla hlb hN hia hib hr cA hAe hBe
        go_wp2_with fail
        refine HLE.out.mono ?_
        clear HLE
        rintro e w4 ⟨rfl, b4⟩
        have B4 := HB.out.trans (b4.mono HB.out.size)
        have O4 := own_skip HO.out b4
        have cA4 := (b4.cell (block_lt_of_cell cA2)).trans cA2
        clear cA2
        have HB4 := hidn B4
        have HO4 := hidn O4
        clear B4 O4 b4 HO
        go_wp2_with fail
        refine (HKE.out w4).mono ?_
        rintro e w5 ⟨rfl, rfl⟩
        cases r with
        | true =>
          obtain ⟨wB, hwB⟩ : ∃ wB, wB = w5.alloc (.cells #[.int .i64 N] 3) := ⟨_, rfl⟩
          have bB : Below w5.heap.size w5 wB := by rw [hwB]; exact (Below.refl _ w5).alloc (Nat.le_refl _) _
          have qB : wB.heap[w5.heap.size]? = some (.cells #[.int .i64 N] 3 (0, 0)) := by rw [hwB]; exact heap_alloc_new w5 _
          have BB := HB4.out.trans (bB.mono HB4.out.size)
          have O2 := own_skip HO4.out bB
          obtain ⟨v3, w3, hrun, hown3, hgr3⟩ := appAny wB w2.heap.size 22 22 3 i1 z1 1 8 Tryz.underlying22 hi1 hy0 hy1 hy2 hyc (by decide) u7 K.length (ivs K) O2 BB.size (some ⟨w5.heap.size, 0, none⟩) 1 1 [.int .i64 N] rfl (fun e => by cases e) (fun x hx j u hu => by
            cases hx
            rw [add_none, Nat.zero_add, cell_of_row _ _ _ _ _ _ qB]
            simpa using hu) (fun u hu => by
            simp at hu
            rw [hu]
            rfl) (by have := HKL.out; unfold maxLen; omega) (by have := HKL.out; omega)
          have HB3 := hidn (BB.grown hgr3 BB.size (fun k hk => (O2.lt k hk).1))
          have HO3 : Hid (w3.ownsRow w2.heap.size 3 1 v3 (K ++ [N]).length (ivs (K ++ [N]))) := hidn (by
            rw [ivs_append, List.length_append]
            exact hown3)
          have HRUN := hidn hrun
          have HWB := hidn hwB
          subst e9
          clear hrun hown3 hgr3 O2 bB qB hwB BB HO4
          go_wp2_with (at_builtin; rw [← HWB.out]; refine wpList_app_runA rfl _ _ 22 22 rfl rfl _ _ _ rfl rfl HRUN.out ?_; clear HRUN)
          refine (HBA.out w3 HB3.out).mono ?_
          rintro e w6 ⟨a6, n6, c6, rfl, hI6, hc6, hl6, rfl⟩
          have HI6 := hidn hI6
          have HL6 := hidn hl6
          clear hI6 hl6
          go_wp2_with fail
          refine (HBB.out w6 HB3.out).mono ?_
          rintro e w7 ⟨a7, n7, c7, rfl, hI7, hc7, hl7, rfl⟩
          have HI7 := hidn hI7
          have HL7 := hidn hl7
          clear hI7 hl7
          go_wp2_with fail
          refine ⟨⟨_, _, _, a6, a7, n6, n7, c6, c7, rfl, rfl, HST, HI6, HI7, hidn hc6, hidn hc7, HO3, HB3⟩, ?_⟩
          have h6 := HL6.out
          have h7 := HL7.out
          have h8 := HLT.out
          show n6 + n7 < n + 0
          exact sift_meas _ _ _ _ _ _ h6 h7 h8 (fun _ => hn0) (fun e => by cases e)
        | false =>
          have HO9 := HO4
          subst e9
          go_wp2_with fail
          refine (HBA.out w5 HB4.out).mono ?_
          rintro e w6 ⟨a6, n6, c6, rfl, hI6, hc6, hl6, rfl⟩
          have HI6 := hidn hI6
          have HL6 := hidn hl6
          clear hI6 hl6
          go_wp2_with fail
          refine (HBB.out w6 HB4.out).mono ?_
          rintro e w7 ⟨a7, n7, c7, rfl, hI7, hc7, hl7, rfl⟩
          have HI7 := hidn hI7
          have HL7 := hidn hl7
          clear hI7 hl7
          go_wp2_with fail
          refine ⟨⟨_, _, _, a6, a7, n6, n7, c6, c7, rfl, rfl, HST, HI6, HI7, hidn hc6, hidn hc7, HO9, HB4⟩, ?_⟩
          have h6 := HL6.out
          have h7 := HL7.out
          have h8 := HLT.out
          show n6 + n7 < n + 0
          exact sift_meas _ _ _ _ _ _ h6 h7 h8 (fun _ => hn0) (fun e => by cases e)
      | cons xb tb =>
        have HLE := hidn (least_any aa ba n ca m cb A' B' wr (HIA.out.below HB.out) (HIB.out.below HB.out) (.inl (by rw [hAe]; simp)))
        obtain ⟨hin, hla, hlb⟩ := leastS_spec (HS.out.riseA HRA.out) (HS.out.riseB HRB.out) ((.inl (by rw [hAe]; simp)) : A' ≠ [] ∨ B' ≠ [])
        have HST := hidn (HS.out.step HRA.out HRB.out _ hin hla hlb)
        obtain ⟨N, hN⟩ : ∃ N, N = leastS A' B' := ⟨_, rfl⟩
        rw [← hN] at HLE HST hin hla hlb
        obtain ⟨ia, hia⟩ : ∃ ia, headIs N A' = ia := ⟨_, rfl⟩
        obtain ⟨ib, hib⟩ : ∃ ib, headIs N B' = ib := ⟨_, rfl⟩
        have HBA := hidn (fun w9 (b9 : Below w2.heap.size w2 w9) => behind_any aa n ca A' ia w2 w9 HIA.out b9 HCA.out (fun e => by rw [hAe]; simp))
        have HBB := hidn (fun w9 (b9 : Below w2.heap.size w2 w9) => behind_any ba m cb B' ib w2 w9 HIB.out b9 HCB.out (fun e => by rw [hBe]; simp))
        rw [show (if ia then A'.tail else A') = behindS N A' from by rw [← hia]; exact behind_if N A'] at HBA
        rw [show (if ib then B'.tail else B') = behindS N B' from by rw [← hib]; exact behind_if N B'] at HBB
        rw [hia, hib] at HST
        obtain ⟨hn0, ga, oa, rfl, cA⟩ := (show Ils w2 aa n (xa :: ta) from by rw [← hAe]; exact HIA.out).headI
        have cA2 := (HB.out.cell (block_lt_of_cell cA)).trans cA
        have hni : (0 : Int) < (n : Int) := by omega
        have hxa : (xa == N) = ia := by rw [← hia, hAe]; rfl
        obtain ⟨hm0, gb, ob, rfl, cB⟩ := (show Ils w2 ba m (xb :: tb) from by rw [← hBe]; exact HIB.out).headI
        have cB2 := (HB.out.cell (block_lt_of_cell cB)).trans cB
        have hmi : (0 : Int) < (m : Int) := by omega
        have hxb : (xb == N) = ib := by rw [← hib, hBe]; rfl
        obtain ⟨r, hr⟩ : ∃ r, inFirstAloneS ia ib = r := ⟨_, rfl⟩
        have HKE := hidn (inFirstAlone_any ia ib)
        rw [hr] at HST HKE
        have HLT : Hid (ia = true ∨ ib = true) := hidn (by
          rcases hin with e | e
          · left; rw [← hia, head_mem (HS.out.riseA HRA.out) hla]; simpa using e
          · right; rw [← hib, head_mem (HS.out.riseB HRB.out) hlb]; simpa using e)
        obtain ⟨va, vc, e9⟩ : ∃ va vc, u7 = Value.slice va K.length vc := by
          rcases HO.out.2 with ⟨h1, h2⟩ | ⟨g, cp, cur, h1, _⟩
          · exact ⟨none, 0, by rw [h1, h2]⟩
          · exact ⟨_, _, h1⟩
        have HKL : Hid (K.length ≤ 100000) := hidn (by have := (HS.out.len HRA.out HRB.out); have := HLA.out; have := HLB.out; omega)
        clear hin hla hlb hN hia hib hr cA cB hAe hBe
        go_wp2_with fail
        refine HLE.out.mono ?_
        clear HLE
        rintro e w4 ⟨rfl, b4⟩
        have B4 := HB.out.trans (b4.mono HB.out.size)
        have O4 := own_skip HO.out b4
        have cA4 := (b4.cell (block_lt_of_cell cA2)).trans cA2
        have cB4 := (b4.cell (block_lt_of_cell cB2)).trans cB2
        clear cA2
        clear cB2
        have HB4 := hidn B4
        have HO4 := hidn O4
        clear B4 O4 b4 HO
        go_wp2_with fail
        refine (HKE.out w4).mono ?_
        rintro e w5 ⟨rfl, rfl⟩
        cases r with
        | true =>
          obtain ⟨wB, hwB⟩ : ∃ wB, wB = w5.alloc (.cells #[.int .i64 N] 3) := ⟨_, rfl⟩
          have bB : Below w5.heap.size w5 wB := by rw [hwB]; exact (Below.refl _ w5).alloc (Nat.le_refl _) _
          have qB : wB.heap[w5.heap.size]? = some (.cells #[.int .i64 N] 3 (0, 0)) := by rw [hwB]; exact heap_alloc_new w5 _
          have BB := HB4.out.trans (bB.mono HB4.out.size)
          have O2 := own_skip HO4.out bB
          obtain ⟨v3, w3, hrun, hown3, hgr3⟩ := appAny wB w2.heap.size 22 22 3 i1 z1 1 8 Tryz.underlying22 hi1 hy0 hy1 hy2 hyc (by decide) u7 K.length (ivs K) O2 BB.size (some ⟨w5.heap.size, 0, none⟩) 1 1 [.int .i64 N] rfl (fun e => by cases e) (fun x hx j u hu => by
            cases hx
            rw [add_none, Nat.zero_add, cell_of_row _ _ _ _ _ _ qB]
            simpa using hu) (fun u hu => by
            simp at hu
            rw [hu]
            rfl) (by have := HKL.out; unfold maxLen; omega) (by have := HKL.out; omega)
          have HB3 := hidn (BB.grown hgr3 BB.size (fun k hk => (O2.lt k hk).1))
          have HO3 : Hid (w3.ownsRow w2.heap.size 3 1 v3 (K ++ [N]).length (ivs (K ++ [N]))) := hidn (by
            rw [ivs_append, List.length_append]
            exact hown3)
          have HRUN := hidn hrun
          have HWB := hidn hwB
          subst e9
          clear hrun hown3 hgr3 O2 bB qB hwB BB HO4
          go_wp2_with (at_builtin; rw [← HWB.out]; refine wpList_app_runA rfl _ _ 22 22 rfl rfl _ _ _ rfl rfl HRUN.out ?_; clear HRUN)
          refine (HBA.out w3 HB3.out).mono ?_
          rintro e w6 ⟨a6, n6, c6, rfl, hI6, hc6, hl6, rfl⟩
          have HI6 := hidn hI6
          have HL6 := hidn hl6
          clear hI6 hl6
          go_wp2_with fail
          refine (HBB.out w6 HB3.out).mono ?_
          rintro e w7 ⟨a7, n7, c7, rfl, hI7, hc7, hl7, rfl⟩
          have HI7 := hidn hI7
          have HL7 := hidn hl7
          clear hI7 hl7
          go_wp2_with fail
          refine ⟨⟨_, _, _, a6, a7, n6, n7, c6, c7, rfl, rfl, HST, HI6, HI7, hidn hc6, hidn hc7, HO3, HB3⟩, ?_⟩
          have h6 := HL6.out
          have h7 := HL7.out
          have h8 := HLT.out
          show n6 + n7 < n + m
          exact sift_meas _ _ _ _ _ _ h6 h7 h8 (fun _ => hn0) (fun _ => hm0)
        | false =>
          have HO9 := HO4
          subst e9
          go_wp2_with fail
          refine (HBA.out w5 HB4.out).mono ?_
          rintro e w6 ⟨a6, n6, c6, rfl, hI6, hc6, hl6, rfl⟩
          have HI6 := hidn hI6
          have HL6 := hidn hl6
          clear hI6 hl6
          go_wp2_with fail
          refine (HBB.out w6 HB4.out).mono ?_
          rintro e w7 ⟨a7, n7, c7, rfl, hI7, hc7, hl7, rfl⟩
          have HI7 := hidn hI7
          have HL7 := hidn hl7
          clear hI7 hl7
          go_wp2_with fail
          refine ⟨⟨_, _, _, a6, a7, n6, n7, c6, c7, rfl, rfl, HST, HI6, HI7, hidn hc6, hidn hc7, HO9, HB4⟩, ?_⟩
          have h6 := HL6.out
          have h7 := HL7.out
          have h8 := HLT.out
          show n6 + n7 < n + m
          exact sift_meas _ _ _ _ _ _ h6 h7 h8 (fun _ => hn0) (fun _ => hm0)

theorem ixMinus_any (a b : Option Addr) (la ca lb cb : Nat) (l1 l2 : List Int) (w : World) (h1 : Ils w a la l1) (h2 : Ils w b lb l2) (hm1 : la ≤ 1000) (hm2 : lb ≤ 1000) :
    Calls Tryz.prog 10 #[.slice a la ca, .slice b lb cb] w (SiftP inFirstAloneS l1 l2 w) := by
  have H := hidn (sift_inFirstAlone a b la ca lb cb l1 l2 w h1 h2 hm1 hm2)
  clear h1 h2
  go_enter Tryz.func10, Tryz.ntmps10
  go_wp2_with fail
  refine H.out.mono ?_
  rintro e w1 ⟨L, v, rfl, ho, hL, hl, hb⟩
  have HO := hidn ho
  have HL := hidn hL
  have HN := hidn hl
  have HB := hidn hb
  clear ho hL hl hb
  go_wp2_with fail
  go_ret
  exact ⟨L, v, rfl, HO.out, HL.out, HN.out, HB.out⟩

end Go.Proofs.YtiffbbcgailmnaaGreatDoor

namespace Go.Proofs.YtiffbbcgailmnaaGreatDoor
open Go.RowKit Go.Joins
set_option linter.unusedVariables false

set_option maxHeartbeats 2000000 in
set_option maxRecDepth 100000 in
theorem ixEqual_same (a a' : Option Addr) (len cap cap' : Nat) (l : List Int) (w : World) (h : Ils w a len l) (h' : Ils w a' len l) :
    Calls Tryz.prog 5 #[.slice a len cap, .slice a' len cap'] w fun e w' => e = .returned (.bool true) ∧ Below w.heap.size w w' := by
  have hlen := hidn h.1
  have hlm := h.2.1
  unfold maxLen at hlm
  have hn : ((len : Int) != (len : Int)) = false := by simp
  go_enter Tryz.func5, Tryz.ntmps5
  go_wp2_with fail
  go_loopw [13] (fun iv wr => ∃ (k : Nat), k ≤ len ∧ iv = .int .i64 (k : Int) ∧ Below w.heap.size w wr) (fun iv _ => len - (intOf iv).toNat)
  case atStart => exact ⟨0, Nat.zero_le _, rfl, Below.refl _ _⟩
  case round =>
    obtain ⟨k, hk, rfl, hb⟩ := hrel
    by_cases hlt : k < len
    · have hlt2 : (k : Int) < (len : Int) := by omega
      obtain ⟨d, hd⟩ : ∃ d, l[k]? = some d := ⟨_, List.getElem?_eq_getElem (by rw [hlen.out]; exact hlt)⟩
      obtain ⟨b, off, rfl, c0⟩ := (h.below hb).at hd
      obtain ⟨b', off', rfl, c1⟩ := (h'.below hb).at hd
      have hdd : (d != d) = false := by simp
      have bd : Below w.heap.size w wr.drew := hb.drew
      clear hd
      go_wp2_with fail
      go_region
      go_wp2_with fail
      exact ⟨⟨k + 1, by omega, by simp, bd⟩, by simp [intOf]; omega⟩
    · have hlt2 : ¬ (k : Int) < (len : Int) := by omega
      go_wp2_with fail
      exact bodyPost_ret (v := .bool true) (by simp [results, Tryz.results5, go_sem]) rfl ⟨rfl, hb⟩


def ListP (P : Int → Prop) (N : Nat) (w : World) (e : Ending) (w' : World) : Prop :=
  ∃ (L : List Int) (va : Option Addr) (vc : Nat), e = .returned (.slice va L.length vc) ∧ Ils w' va L.length L ∧ (Rises L ∧ (∀ x, x ∈ L ↔ P x)) ∧ L.length ≤ N ∧ Below w.heap.size w w'

theorem ils_ofI {w : World} {base : Nat} {v : Value} {l : List Int} (h : w.ownsRow base 3 1 v l.length (ivs l)) : ∃ a c, v = .slice a l.length c ∧ Ils w a l.length l := by
  obtain ⟨a, c, h1, h2, _⟩ := ils_of_own h
  exact ⟨a, c, h1, h2⟩

theorem list_of {f : Bool → Bool → Bool} {P : Int → Prop} {a b : List Int} {w w' : World} {e : Ending} {N : Nat} (h : SiftP f a b w e w') (hN : a.length + b.length ≤ N) (hP : ∀ x, ((x ∈ a ∨ x ∈ b) ∧ f (decide (x ∈ a)) (decide (x ∈ b)) = true) ↔ P x) : ListP P N w e w' := by
  obtain ⟨L, v, rfl, ho, ⟨hr, hm⟩, hl, hb⟩ := h
  obtain ⟨va, vc, rfl, hI⟩ := ils_ofI ho
  exact ⟨L, va, vc, rfl, hI, ⟨hr, fun x => (hm x).trans (hP x)⟩, by omega, hb⟩

theorem ixUnion_p (a b : Option Addr) (la ca lb cb N : Nat) (l1 l2 : List Int) (w : World) (h1 : Ils w a la l1) (h2 : Ils w b lb l2) (hm1 : la ≤ 1000) (hm2 : lb ≤ 1000) (hN : la + lb ≤ N) :
    Calls Tryz.prog 6 #[.slice a la ca, .slice b lb cb] w (ListP (fun x => x ∈ l1 ∨ x ∈ l2) N w) :=
  (ixUnion_any a b la ca lb cb l1 l2 w h1 h2 hm1 hm2).mono fun e w' h => list_of h (by rw [h1.1, h2.1]; exact hN) (fun x => by
    by_cases e1 : x ∈ l1 <;> by_cases e2 : x ∈ l2 <;> simp [inEitherS, e1, e2])

theorem ixMeet_p (a b : Option Addr) (la ca lb cb N : Nat) (l1 l2 : List Int) (w : World) (h1 : Ils w a la l1) (h2 : Ils w b lb l2) (hm1 : la ≤ 1000) (hm2 : lb ≤ 1000) (hN : la + lb ≤ N) :
    Calls Tryz.prog 8 #[.slice a la ca, .slice b lb cb] w (ListP (fun x => x ∈ l1 ∧ x ∈ l2) N w) :=
  (ixMeet_any a b la ca lb cb l1 l2 w h1 h2 hm1 hm2).mono fun e w' h => list_of h (by rw [h1.1, h2.1]; exact hN) (fun x => by
    by_cases e1 : x ∈ l1 <;> by_cases e2 : x ∈ l2 <;> simp [inBothS, e1, e2])

theorem ixMinus_p (a b : Option Addr) (la ca lb cb N : Nat) (l1 l2 : List Int) (w : World) (h1 : Ils w a la l1) (h2 : Ils w b lb l2) (hm1 : la ≤ 1000) (hm2 : lb ≤ 1000) (hN : la + lb ≤ N) :
    Calls Tryz.prog 10 #[.slice a la ca, .slice b lb cb] w (ListP (fun x => x ∈ l1 ∧ x ∉ l2) N w) :=
  (ixMinus_any a b la ca lb cb l1 l2 w h1 h2 hm1 hm2).mono fun e w' h => list_of h (by rw [h1.1, h2.1]; exact hN) (fun x => by
    by_cases e1 : x ∈ l1 <;> by_cases e2 : x ∈ l2 <;> simp [inFirstAloneS, e1, e2])

end Go.Proofs.YtiffbbcgailmnaaGreatDoor

namespace Go.Proofs.YtiffbbcgailmnaaGreatDoor
open Go.RowKit Go.Joins
set_option linter.unusedVariables false

set_option maxHeartbeats 1000000 in
theorem ixHas_any (a : Option Addr) (len cap : Nat) (l : List Int) (n : Int) (w : World) (h : Ils w a len l) :
    Calls Tryz.prog 23 #[.slice a len cap, .int .i64 n] w fun e w' => e = .returned (.bool (decide (n ∈ l))) ∧ Below w.heap.size w w' := by
  have hlen := hidn h.1
  have hlm := h.2.1
  unfold maxLen at hlm
  obtain ⟨Z, hZ⟩ : ∃ Z, Z = decide (n ∈ l) := ⟨_, rfl⟩
  rw [← hZ]
  have HZ := hidn hZ
  clear hZ
  go_enter Tryz.func23, Tryz.ntmps23
  go_wp2_with fail
  go_loopw [9] (fun iv wr => ∃ (k : Nat), k ≤ len ∧ iv = .int .i64 (k : Int) ∧ Hid (n ∉ l.take k) ∧ Below w.heap.size w wr) (fun iv _ => len - (intOf iv).toNat)
  case atStart => exact ⟨0, Nat.zero_le _, rfl, hidn (by simp), Below.refl _ _⟩
  case round =>
    obtain ⟨k, hk, rfl, HN, hb⟩ := hrel
    by_cases hlt : k < len
    · have hlt2 : (k : Int) < (len : Int) := by omega
      obtain ⟨x, hx⟩ : ∃ x, l[k]? = some x := ⟨_, List.getElem?_eq_getElem (by rw [hlen.out]; exact hlt)⟩
      obtain ⟨b, off, rfl, c0⟩ := (h.below hb).at hx
      have HX := hidn hx
      clear hx
      by_cases hxn : x = n
      · have hx2 : (x == n) = true := by simp [hxn]
        have HZ2 : Hid (Z = true) := hidn (by rw [HZ.out]; simp; rw [← hxn]; exact List.mem_of_getElem? HX.out)
        clear hxn
        go_wp2_with fail
        exact bodyPost_ret (v := .bool true) (by simp [results, Tryz.results23, go_sem]) rfl ⟨by rw [HZ2.out], hb⟩
      · have hx2 : (x == n) = false := by simp [hxn]
        have HN2 : Hid (n ∉ l.take (k + 1)) := hidn (by
          rw [List.take_add_one, HX.out]
          intro h9
          rcases List.mem_append.1 h9 with h9 | h9
          · exact HN.out h9
          · simp at h9; exact hxn h9.symm)
        clear hxn
        go_wp2_with fail
        exact ⟨⟨k + 1, by omega, by simp, HN2, hb⟩, by simp [intOf]; omega⟩
    · have hlt2 : ¬ (k : Int) < (len : Int) := by omega
      have HZ2 : Hid (Z = false) := hidn (by
        rw [HZ.out]
        have h9 := HN.out
        rw [List.take_of_length_le (by rw [hlen.out]; omega)] at h9
        simpa using h9)
      go_wp2_with fail
      exact bodyPost_ret (v := .bool false) (by simp [results, Tryz.results23, go_sem]) rfl ⟨by rw [HZ2.out], hb⟩

def SetI (l other : List Int) (inb : Bool) (k : Nat) (Lo : List Int) : Prop := Rises Lo ∧ (∀ x, x ∈ Lo ↔ x ∈ l.take k ∧ decide (x ∈ other) = inb) ∧ Lo.length ≤ k

theorem SetI.skip {l other : List Int} {inb : Bool} {k : Nat} {Lo : List Int} {n : Int} (h : SetI l other inb k Lo) (hn : l[k]? = some n) (hs : decide (n ∈ other) ≠ inb ∨ n ∈ Lo) : SetI l other inb (k + 1) Lo := by
  obtain ⟨h1, h2, h3⟩ := h
  refine ⟨h1, fun x => ?_, by omega⟩
  rw [List.take_add_one, hn, h2 x, List.mem_append]
  constructor
  · rintro ⟨a, b⟩
    exact ⟨.inl a, b⟩
  · rintro ⟨a | a, b⟩
    · exact ⟨a, b⟩
    · simp at a
      subst a
      rcases hs with hs | hs
      · exact absurd b hs
      · exact ⟨((h2 x).1 hs).1, b⟩

theorem SetI.ins {l other : List Int} {inb : Bool} {k p : Nat} {Lo : List Int} {n : Int} (h : SetI l other inb k Lo) (hn : l[k]? = some n) (hs : decide (n ∈ other) = inb) (hnot : n ∉ Lo) (hp : p ≤ Lo.length)
    (hD : ∀ x ∈ Lo.drop p, n < x) (hE : ∀ x, 0 < p → Lo[p - 1]? = some x → x ≤ n) : SetI l other inb (k + 1) (Lo.take p ++ n :: Lo.drop p) := by
  obtain ⟨h1, h2, h3⟩ := h
  have ht : ∀ x ∈ Lo.take p, x < n := by
    intro x hx
    obtain ⟨i, hi, e⟩ := List.getElem_of_mem hx
    have hi2 : i < p := by simp at hi; omega
    have hi3 : i < Lo.length := by simp at hi; omega
    have hlast := hE (Lo[p - 1]'(by omega)) (by omega) (List.getElem?_eq_getElem (by omega))
    have hne : Lo[p - 1]'(by omega) ≠ n := fun e9 => hnot (by rw [← e9]; exact List.getElem_mem _)
    have hxe : x = Lo[i]'hi3 := by rw [← e]; simp
    by_cases hip : i = p - 1
    · subst hip; omega
    · have := List.pairwise_iff_getElem.1 h1 i (p - 1) hi3 (by omega) (by omega)
      omega
  refine ⟨?_, fun x => ?_, by simp; omega⟩
  · have h4 := h1
    rw [← List.take_append_drop p Lo] at h4
    obtain ⟨q1, q2, q3⟩ := List.pairwise_append.1 h4
    refine List.pairwise_append.2 ⟨q1, List.pairwise_cons.2 ⟨fun y hy => hD y hy, q2⟩, fun x hx y hy => ?_⟩
    rcases List.mem_cons.1 hy with e | e
    · rw [e]; exact ht x hx
    · exact q3 x hx y e
  · rw [List.take_add_one, hn, List.mem_append, List.mem_cons, List.mem_append]
    have h5 : x ∈ Lo ↔ x ∈ Lo.take p ∨ x ∈ Lo.drop p := by
      conv => lhs; rw [← List.take_append_drop p Lo]
      exact List.mem_append
    constructor
    · rintro (e | e | e)
      · have := (h2 x).1 (h5.2 (.inl e)); exact ⟨.inl this.1, this.2⟩
      · subst e; exact ⟨.inr (by simp), hs⟩
      · have := (h2 x).1 (h5.2 (.inr e)); exact ⟨.inl this.1, this.2⟩
    · rintro ⟨a | a, b⟩
      · rcases h5.1 ((h2 x).2 ⟨a, b⟩) with e | e
        · exact .inl e
        · exact .inr (.inr e)
      · simp at a
        exact .inr (.inl a)

def ixPutAll (a : Act) (l : List (Nat × Value)) : Act := l.foldl (fun a p => a.put (some p.1) p.2) a

theorem ix_cut {P : Program} {id : Nat} {ops : Array Oper} {Q : Exit → Act → World → Prop} {a : Act} {w : World} {d : Bool} (I : List (Nat × Value) → World → Prop)
    (h1 : (Code.region id ops d).wp P (fun e a' w' => e = .normal ∧ ∃ l, I l w' ∧ a' = ixPutAll a l) a w) (h2 : ∀ l w', I l w' → Q .normal (ixPutAll a l) w') : (Code.region id ops d).wp P Q a w :=
  Code.wp_mono (fun e a' w' h => by obtain ⟨rfl, l, hI, rfl⟩ := h; exact h2 l w' hI) h1

theorem ix_empty {W : World} {b base : Nat} (h : W.heap[b]? = some (.cells #[] 3 (0, 0))) (hb : base ≤ b) : W.ownsRow base 3 1 (.slice (some ⟨b, 0, none⟩) 0 0) 0 [] :=
  ⟨by simp, .inr ⟨b, 0, #[], rfl, hb, h, by omega, by simp, by simp, by simp⟩⟩

theorem ix_mk0 {o : Oper} {a : Act} {w : World} (ho : o.op = Op.buildSlice 22 0 #[]) : (execOp a.eval o).run Tryz.prog w = .ok (.value (.slice (some ⟨w.heap.size, 0, none⟩) 0 0)) (w.alloc (.cells #[] 3)) := by
  have h : (Instr.buildSlice 22 0 #[]).run Tryz.prog w = .ok (.slice (some ⟨w.heap.size, 0, none⟩) 0 0) (w.alloc (.cells #[] 3)) := by kernel_rfl
  simp [execOp, ho, h, Result.andThen]

theorem ix_mk1 {o : Oper} {a : Act} {w : World} {x : Operand} {n : Int} (ho : o.op = Op.buildSlice 22 1 #[(0, x)]) (hx : a.eval x = .int .i64 n) : (execOp a.eval o).run Tryz.prog w = .ok (.value (.slice (some ⟨w.heap.size, 0, none⟩) 1 1)) (w.alloc (.cells #[.int .i64 n] 3)) := by
  have h : (Instr.buildSlice 22 1 #[(0, .int .i64 n)]).run Tryz.prog w = .ok (.slice (some ⟨w.heap.size, 0, none⟩) 1 1) (w.alloc (.cells #[.int .i64 n] 3)) := by kernel_rfl
  simp [execOp, ho, hx, h, Result.andThen]

theorem ix_appr {o : Oper} {a : Act} {w w' : World} {t u : TypeId} {x y : Operand} {vx vy v : Value} (ho : o.op = .call { callee := .builtin .append, args := #[x, y], argTypes := #[t, u] }) (hx : a.eval x = vx) (hy : a.eval y = vy) (hr : (Builtin.append_ #[t, u] o.type #[vx, vy]).run Tryz.prog w = .ok v w') : (execOp a.eval o).run Tryz.prog w = .ok (.value v) w' := by
  unfold execOp
  simp only [ho, resolve, invoke, builtin, Sem.run_bind, Sem.run_pure, Result.andThen_ok, List.map_toArray, List.map_cons, List.map_nil, hx, hy, hr]

theorem ix_one (l : List Int) : ∀ u ∈ ivs l, u.oneCell' = true := by
  intro u hu
  unfold ivs at hu
  obtain ⟨y, _, rfl⟩ := List.mem_map.1 hu
  rfl

/-- append of numbers that lie somewhere onto a row of one's own. -/
theorem ixApp (W : World) (n0 : Nat) (v : Value) (n : Nat) (xs : List Value) (hown : W.ownsRow n0 3 1 v n xs) (hle : n0 ≤ W.heap.size) (aa : Option Addr) (m c0 : Nat) (l : List Int) (hI : Ils W aa m l) (tot : Nat) (ht : tot = n + m) (htb : tot ≤ 1000) :
    ∃ (a' : Option Addr) (c' : Nat) (W' : World), (Builtin.append_ #[22, 22] 22 #[v, .slice aa m c0]).run Tryz.prog W = .ok (.slice a' tot c') W' ∧ W'.ownsRow n0 3 1 (.slice a' tot c') tot (xs ++ ivs l) ∧ W.grownBy W' v.ownBlock := by
  obtain ⟨i1, z1, hi1, hy0, hy1, hy2, hyc⟩ := iInfo
  obtain ⟨h1, h2, h3, h4⟩ := hI
  subst ht
  obtain ⟨v', w', r1, r2, r3⟩ := appAny (P := Tryz.prog) W n0 22 22 3 i1 z1 1 8 Tryz.underlying22 hi1 hy0 hy1 hy2 hyc (by decide) v n xs hown hle aa m c0 (ivs l) (by simp [ivs, h1]) h3 (fun x hx j u hu => by
    unfold ivs at hu
    rw [List.getElem?_map] at hu
    cases hq : l[j]? with
    | none => rw [hq] at hu; cases hu
    | some y =>
      rw [hq] at hu
      cases hu
      exact h4 x hx j y hq) (ix_one l) (by unfold maxLen; omega) (by omega)
  obtain ⟨a', c', rfl⟩ := own_slice r2
  exact ⟨a', c', w', r1, r2, r3⟩

theorem ix_slH {o : Oper} {a : Act} {w : World} {x z : Operand} {fa : Option Addr} {N fc k : Nat} (ho : o.op = Op.slice 22 x none (some z) none) (hx : a.eval x = .slice fa N fc) (hz : a.eval z = .int .i64 (k : Int)) (hk : k ≤ fc) : (execOp a.eval o).run Tryz.prog w = .ok (.value (.slice fa k fc)) w := by
  have h2 : (Instr.slice 22 (.slice fa N fc) none (some (.int .i64 (k : Int))) none).run Tryz.prog w = .ok (.slice fa k fc) w := by
    rw [run_slice_h (P := Tryz.prog) w 22 fa N fc (by kernel_rfl) .i64 (k : Int) (by omega) (by omega)]
    have hsz : (sizeOf (Tryz.prog.elem 22)).run Tryz.prog w = .ok 1 w := by kernel_rfl
    rw [hsz]
    cases fa <;> simp [Result.andThen, sliced, Addr.add]
  have hs := (run_sliceAt_slice (P := Tryz.prog) (w := w) 22 (.slice fa N fc) none (some (.int .i64 (k : Int))) none (by kernel_rfl)).trans h2
  simp [execOp, ho, hx, hz, hs, Result.andThen]

theorem ix_slL {o : Oper} {a : Act} {w : World} {x z : Operand} {fa a2 : Option Addr} {N fc k m2 c2 : Nat} (ho : o.op = Op.slice 22 x (some z) none none) (hx : a.eval x = .slice fa N fc) (hz : a.eval z = .int .i64 (k : Int)) (hk : k ≤ N) (HA : Hid (a2 = if fc = k then fa else fa.map (·.add (k * 1)))) (HM : Hid (m2 = N - k)) (HC : Hid (c2 = fc - k)) : (execOp a.eval o).run Tryz.prog w = .ok (.value (.slice a2 m2 c2)) w := by
  have h2 : (Instr.slice 22 (.slice fa N fc) (some (.int .i64 (k : Int))) none none).run Tryz.prog w = .ok (.slice a2 m2 c2) w := by
    rw [run_slice_l (P := Tryz.prog) w 22 fa N fc (by kernel_rfl) .i64 (k : Int) (by omega) (by omega)]
    have hsz : (sizeOf (Tryz.prog.elem 22)).run Tryz.prog w = .ok 1 w := by kernel_rfl
    rw [hsz, HA.out, HM.out, HC.out]
    simp [Result.andThen, sliced]
  have hs := (run_sliceAt_slice (P := Tryz.prog) (w := w) 22 (.slice fa N fc) (some (.int .i64 (k : Int))) none none (by kernel_rfl)).trans h2
  simp [execOp, ho, hx, hz, hs, Result.andThen]

theorem ixLow {w : World} {fa : Option Addr} {N fc k : Nat} {l : List Int} (h : Ils w fa N l) (hc : N ≤ fc) (hk : k ≤ N) : Ils w (if fc = k then fa else fa.map (·.add (k * 1))) (N - k) (l.drop k) := by
  obtain ⟨h1, h2, h3, h4⟩ := h
  refine ⟨by rw [List.length_drop, h1], by omega, fun e => ?_, fun x hx j c hj => ?_⟩
  · have : fa = none := by
      split at e
      · exact e
      · simpa using e
    have := h3 this
    omega
  · rw [List.getElem?_drop] at hj
    have hjl : k + j < l.length := (List.getElem?_eq_some_iff.1 hj).1
    rw [if_neg (by omega)] at hx
    cases fa with
    | none => simp at hx
    | some y =>
      simp only [Option.map_some, Option.some.injEq] at hx
      subst hx
      have h9 := h4 y rfl (k + j) c hj
      obtain ⟨b, off, sp⟩ := y
      have hsp : sp = none := by
        obtain ⟨c0, hc0⟩ : ∃ c0, l[0]? = some c0 := ⟨_, List.getElem?_eq_getElem (by omega)⟩
        have := World.cell?_spot (h4 _ rfl 0 c0 hc0)
        simpa [Addr.add] using this
      subst hsp
      rw [Nat.mul_one, add_none, add_none]
      rw [add_none] at h9
      rw [Nat.add_assoc]
      exact h9

theorem ix_n1 {W : World} {b : Nat} {n : Int} (h : W.heap[b]? = some (.cells #[.int .i64 n] 3 (0, 0))) : Ils W (some ⟨b, 0, none⟩) 1 [n] := by
  refine ⟨rfl, by unfold maxLen; omega, (fun e => by cases e), fun x hx j c hj => ?_⟩
  cases hx
  have hj0 : j = 0 := by have := (List.getElem?_eq_some_iff.1 hj).1; simp at this; exact this
  subst hj0
  simp at hj
  subst hj
  rw [add_none, cell_of_row _ _ _ _ _ _ h]
  rfl

theorem ils_ofC {w : World} {base : Nat} {v : Value} {l : List Int} {N : Nat} (h : w.ownsRow base 3 1 v N (ivs l)) (hN : N = l.length) : ∃ a c, v = .slice a N c ∧ Ils w a N l ∧ N ≤ c := by
  subst hN
  obtain ⟨a, c, h1, h2, h3⟩ := ils_of_own h
  exact ⟨a, c, h1, h2, h3⟩

set_option maxHeartbeats 8000000 in
set_option maxRecDepth 100000 in
theorem ixSet_any (a b : Option Addr) (len cap blen bcap : Nat) (l other : List Int) (inb : Bool) (w : World) (h : Ils w a len l) (h2 : Ils w b blen other) (hm : len ≤ 100) :
    Calls Tryz.prog 15 #[.slice a len cap, .slice b blen bcap, .bool inb] w (ListP (fun x => x ∈ l ∧ decide (x ∈ other) = inb) len w) := by
  have hlen := hidn h.1
  have HI := hidn h
  have HJ := hidn h2
  clear h h2
  go_enter Tryz.func15, Tryz.ntmps15
  go_wp2_with fail
  go_loopw [7, 13] (fun ov iv wr => ∃ (k : Nat) (v : Value) (Lo : List Int), k ≤ len ∧ iv = .int .i64 (k : Int) ∧ ov = v ∧ Hid (SetI l other inb k Lo) ∧ Hid (wr.ownsRow w.heap.size 3 1 v Lo.length (ivs Lo)) ∧ Hid (Below w.heap.size w wr)) (fun _ iv _ => len - (intOf iv).toNat)
  case atStart => exact ⟨0, _, [], Nat.zero_le _, rfl, rfl, hidn ⟨List.Pairwise.nil, (fun x => ⟨(fun e => by cases e), fun e => by simp at e⟩), Nat.le_refl _⟩, hidn (World.ownsRow_nil _ _ _ _), hidn (Below.refl _ _)⟩
  case round =>
    obtain ⟨wo, hwo⟩ : ∃ wo, wo = wr := ⟨wr, rfl⟩
    subst hwo
    obtain ⟨k, v, Lo, hk, rfl, rfl, HS, HO, HB⟩ := hrel
    by_cases hlt : k < len
    · have hlt2 : (k : Int) < (len : Int) := by omega
      obtain ⟨n, hn⟩ : ∃ n, l[k]? = some n := ⟨_, List.getElem?_eq_getElem (by rw [hlen.out]; exact hlt)⟩
      obtain ⟨lb, lo, rfl, c0⟩ := (HI.out.below HB.out).at hn
      have HNK := hidn hn
      obtain ⟨N, hN⟩ : ∃ N, N = Lo.length := ⟨_, rfl⟩
      have HN := hidn hN
      have hN100 : N ≤ 100 := by have := HS.out.2.2; omega
      have hO1 := HO.out
      rw [← hN] at hO1
      obtain ⟨fa, fc, hv, hF, hfc⟩ := ils_ofC hO1 hN
      have HO1 := hidn hO1
      have HF := hidn hF
      have HH1 := hidn (ixHas_any b blen bcap other n wo (HJ.out.below HB.out))
      have HH2 := hidn (fun w9 (b9 : Below wo.heap.size wo w9) => ixHas_any fa N fc Lo n w9 (HF.out.below b9))
      obtain ⟨r1, hr1⟩ : ∃ r, r = decide (n ∈ other) := ⟨_, rfl⟩
      obtain ⟨r2, hr2⟩ : ∃ r, r = decide (n ∈ Lo) := ⟨_, rfl⟩
      rw [← hr1] at HH1
      rw [← hr2] at HH2
      have HR1 := hidn hr1
      have HR2 := hidn hr2
      subst hv
      clear hn hN hO1 hF hr1 hr2 HO
      go_wp2_with fail
      refine HH1.out.mono ?_
      clear HH1
      rintro e w1 ⟨rfl, b1⟩
      have HB1 := hidn (HB.out.trans (b1.mono HB.out.size))
      have Hb1 := hidn b1
      clear b1
      by_cases hri : r1 = inb
      · have hri2 : (r1 != inb) = false := by simp [hri]
        have HRI := hidn hri
        clear hri
        go_wp2_with fail
        refine (HH2.out w1 Hb1.out).mono ?_
        clear HH2
        rintro e w4 ⟨rfl, b4⟩
        have HB4 := hidn (HB1.out.trans (b4.mono HB1.out.size))
        have Hb4 := hidn (Hb1.out.trans (b4.mono Hb1.out.size))
        clear b4
        cases r2 with
        | true =>
          have HSN := hidn (HS.out.skip HNK.out (.inr (by have := HR2.out; simpa using this.symm)))
          have HON : Hid (w4.ownsRow w.heap.size 3 1 (.slice fa N fc) Lo.length (ivs Lo)) := hidn (by rw [← HN.out]; exact own_skip HO1.out Hb4.out)
          go_wp2_with fail
          exact ⟨⟨k + 1, _, Lo, by omega, by simp, rfl, HSN, HON, HB4⟩, by simp [intOf]; omega⟩
        | false =>
          have HNL : Hid (n ∉ Lo) := hidn (by have := HR2.out; simpa using this.symm)
          have hN4 : N ≤ 100 := hN100
          go_wp2_with fail
          go_loopw [10] (fun iv wr => ∃ p : Nat, p ≤ N ∧ iv = .int .i64 (p : Int) ∧ Hid (∀ x ∈ Lo.drop p, n < x) ∧ Hid (Below w4.heap.size w4 wr)) (fun iv _ => (intOf iv).toNat)
          case atStart => exact ⟨N, Nat.le_refl _, rfl, hidn (fun x hx => by rw [HN.out, List.drop_length] at hx; cases hx), hidn (Below.refl _ _)⟩
          case round =>
            obtain ⟨p, hpN, rfl, HD, HB3⟩ := hrel
            obtain ⟨w5, hw5⟩ : ∃ w5, w5 = wr := ⟨wr, rfl⟩
            subst hw5
            have Hb5 := hidn (Hb4.out.trans (HB3.out.mono Hb4.out.size))
            have HF5 := hidn (HF.out.below Hb5.out)
            by_cases hgo : ∃ q x, p = q + 1 ∧ Lo[q]? = some x ∧ n < x
            · obtain ⟨q, x, hpq, hx, hnx⟩ := hgo
              obtain ⟨xb, xo, hfa, cx⟩ := HF5.out.at hx
              have HDQ : Hid (∀ y ∈ Lo.drop q, n < y) := hidn (fun y hy => by
                have hql : q < Lo.length := (List.getElem?_eq_some_iff.1 hx).1
                rw [List.drop_eq_getElem_cons hql, (List.getElem?_eq_some_iff.1 hx).2] at hy
                rcases List.mem_cons.1 hy with e | hy
                · rw [e]; exact hnx
                · rw [← hpq] at hy; exact HD.out y hy)
              have hp1 : (0 : Int) < (p : Int) := by omega
              have hqi : (p : Int) - 1 = (q : Int) := by omega
              have hqN : (q : Int) < (N : Int) := by omega
              have hqp : q < p := by omega
              have hqN2 : q < N := by omega
              subst hfa
              clear hx hpq HD
              go_wp2_with fail
              refine ⟨⟨q, by omega, by simp, HDQ, HB3⟩, ?_⟩
              simp [intOf]
              omega
            · have HEN : Hid (∀ x, 0 < p → Lo[p - 1]? = some x → x ≤ n) := hidn (fun x h0 hx => by
                rcases (by omega : n < x ∨ x ≤ n) with h9 | h9
                · exact absurd ⟨p - 1, x, by omega, hx, h9⟩ hgo
                · omega)
              have HST := hidn (HS.out.ins HNK.out (by rw [← HR1.out]; exact HRI.out) HNL.out (by rw [← HN.out]; exact hpN) HD.out HEN.out)
              obtain ⟨n0, hn0⟩ : ∃ n0, n0 = w5.heap.size := ⟨_, rfl⟩
              have HNE := hidn hn0
              obtain ⟨kn1, hkn1⟩ : ∃ kn1, kn1 = p + 1 := ⟨_, rfl⟩
              obtain ⟨m2, hm2⟩ : ∃ m2, m2 = N - p := ⟨_, rfl⟩
              obtain ⟨c2, hc2⟩ : ∃ c2, c2 = fc - p := ⟨_, rfl⟩
              obtain ⟨a2, ha2⟩ : ∃ a2 : Option Addr, a2 = (if fc = p then fa else fa.map (·.add (p * 1))) := ⟨_, rfl⟩
              obtain ⟨n9, hn9⟩ : ∃ n9, n9 = kn1 + m2 := ⟨_, rfl⟩
              have hn9' : n9 = N + 1 := by omega
              have HA2 := hidn ha2
              have HM2 := hidn hm2
              have HC2 := hidn hc2
              have HN9 := hidn hn9'
              have hfp : p ≤ fc := by omega
              have HSA : Hid (∀ W, Below n0 w5 W → Ils W fa p (Lo.take p)) := hidn (fun W hW => (HF5.out.below (by rw [← HNE.out]; exact hW)).take p hpN)
              have HSB : Hid (∀ W, Below n0 w5 W → Ils W a2 m2 (Lo.drop p)) := hidn (fun W hW => by rw [ha2, hm2]; exact ixLow (HF5.out.below (by rw [← HNE.out]; exact hW)) hfc hpN)
              have HTAIL : Hid ((p = 0 ∧ ¬ (0 : Int) < (p : Int)) ∨ ∃ q x xb xo, p = q + 1 ∧ fa = some ⟨xb, xo, none⟩ ∧ w5.cell? ⟨xb, xo + q, none⟩ = some (.int .i64 x) ∧ ¬ n < x) := hidn (by
                by_cases hp0 : p = 0
                · exact .inl ⟨hp0, by omega⟩
                · obtain ⟨x, hx⟩ : ∃ x, Lo[p - 1]? = some x := ⟨_, List.getElem?_eq_getElem (by have := HN.out; omega)⟩
                  obtain ⟨xb, xo, hfa, cx⟩ := HF5.out.at hx
                  exact .inr ⟨p - 1, x, xb, xo, by omega, hfa, cx, by have := HEN.out x (by omega) hx; omega⟩)
              clear hgo hn0 ha2 hc2 hn9' HD HEN
              rcases HTAIL.out with ⟨hp0, hp1⟩ | ⟨q, x, xb, xo, hpq, hfa, cx, hnx⟩
              · clear hp0 HTAIL
                go_wp2_with fail
                refine ix_cut (fun li wx => ∃ (x42 x46 x48 x49 : Value) (ga : Option Addr) (gc : Nat) (u : Unit), li = [(43, .slice fa N fc), (44, .int .i64 (p : Int)), (45, .slice fa p fc), (47, .int .i64 n), (50, .slice fa N fc), (51, .int .i64 (p : Int)), (52, .slice a2 m2 c2), (42, x42), (46, x46), (48, x48), (49, x49), (53, .slice ga n9 gc), (7, .slice ga n9 gc)] ∧ Below n0 w5 wx ∧ wx.ownsRow n0 3 1 (.slice ga n9 gc) n9 ([] ++ ivs (Lo.take p) ++ ivs [n] ++ ivs (Lo.drop p))) ?_ ?_
                · obtain ⟨Wd, hWd⟩ : ∃ Wd, Wd = w5.drew := ⟨_, rfl⟩
                  have hK0 : Below n0 w5 Wd := by rw [hWd]; exact (Below.refl n0 w5).drew
                  have hle0 : n0 ≤ Wd.heap.size := by rw [hWd, HNE.out]; exact Nat.le_refl _
                  refine wp_region_noPanic ?_
                  refine wp_region_held_drew (S := Below n0 w5) (by kernel_rfl) ((Below.refl n0 w5).drew) (fun hHeld => ?_)
                  rw [← hWd] at hHeld ⊢
                  clear hWd
                  refine drawn_take (i := 1) (v := .slice fa N fc) (some 43) rfl rfl (by kernel_rfl) (by kernel_rfl) (by kernel_rfl) (fun _ _ _ h => h) (Or.inl ⟨by kernel_rfl, fun wq hw => by go_simp⟩) hHeld ?_
                  simp only [Act.put, List.setIfInBounds_toArray, List.set_cons_succ, List.set_cons_zero]
                  refine drawn_take (i := 2) (v := .int .i64 (p : Int)) (some 44) rfl rfl (by kernel_rfl) (by kernel_rfl) (by kernel_rfl) (fun _ _ _ h => h) (Or.inl ⟨by kernel_rfl, fun wq hw => by go_simp⟩) hHeld ?_
                  simp only [Act.put, List.setIfInBounds_toArray, List.set_cons_succ, List.set_cons_zero]
                  refine drawn_take (i := 3) (v := .slice fa p fc) (some 45) rfl rfl (by kernel_rfl) (by kernel_rfl) (by kernel_rfl) (fun _ _ _ h => h) (Or.inl ⟨by kernel_rfl, fun wq hw => ix_slH (N := N) (x := .tmp 43) (z := .tmp 44) rfl (by kernel_rfl) (by kernel_rfl) hfp⟩) hHeld ?_
                  simp only [Act.put, List.setIfInBounds_toArray, List.set_cons_succ, List.set_cons_zero]
                  refine drawn_take (i := 5) (v := .int .i64 n) (some 47) rfl rfl (by kernel_rfl) (by kernel_rfl) (by kernel_rfl) (fun _ _ _ h => h) (Or.inl ⟨by kernel_rfl, fun wq hw => by go_simp⟩) hHeld ?_
                  simp only [Act.put, List.setIfInBounds_toArray, List.set_cons_succ, List.set_cons_zero]
                  refine drawn_take (i := 8) (v := .slice fa N fc) (some 50) rfl rfl (by kernel_rfl) (by kernel_rfl) (by kernel_rfl) (fun _ _ _ h => h) (Or.inl ⟨by kernel_rfl, fun wq hw => by go_simp⟩) hHeld ?_
                  simp only [Act.put, List.setIfInBounds_toArray, List.set_cons_succ, List.set_cons_zero]
                  refine drawn_take (i := 9) (v := .int .i64 (p : Int)) (some 51) rfl rfl (by kernel_rfl) (by kernel_rfl) (by kernel_rfl) (fun _ _ _ h => h) (Or.inl ⟨by kernel_rfl, fun wq hw => by go_simp⟩) hHeld ?_
                  simp only [Act.put, List.setIfInBounds_toArray, List.set_cons_succ, List.set_cons_zero]
                  refine drawn_take (i := 10) (v := .slice a2 m2 c2) (some 52) rfl rfl (by kernel_rfl) (by kernel_rfl) (by kernel_rfl) (fun _ _ _ h => h) (Or.inl ⟨by kernel_rfl, fun wq hw => ix_slL (x := .tmp 50) (z := .tmp 51) rfl (by kernel_rfl) (by kernel_rfl) hpN HA2 HM2 HC2⟩) hHeld ?_
                  simp only [Act.put, List.setIfInBounds_toArray, List.set_cons_succ, List.set_cons_zero]
                  obtain ⟨X1, hX1⟩ : ∃ W, W = Wd.alloc (.cells #[] 3) := ⟨_, rfl⟩
                  have b1 : Below Wd.heap.size Wd X1 := by rw [hX1]; exact (Below.refl _ Wd).alloc (Nat.le_refl _) _
                  have q1 : X1.heap[Wd.heap.size]? = some (.cells #[] 3 (0, 0)) := by rw [hX1]; exact heap_alloc_new Wd _
                  have l1 : n0 ≤ X1.heap.size := Nat.le_trans hle0 b1.size
                  have k1 : Below n0 w5 X1 := hK0.trans (b1.mono hle0)
                  have o1 := ix_empty q1 hle0
                  obtain ⟨X11, hX11⟩ : ∃ W, W = Wd.alloc (.cells #[.int .i64 n] 3) := ⟨_, rfl⟩
                  have b11 : Below Wd.heap.size Wd X11 := by rw [hX11]; exact (Below.refl _ Wd).alloc (Nat.le_refl _) _
                  have e11 : X11.heap[Wd.heap.size]? = some (.cells #[.int .i64 n] 3 (0, 0)) := by rw [hX11]; exact heap_alloc_new Wd _
                  have l11 : n0 ≤ X11.heap.size := Nat.le_trans hle0 b11.size
                  have k11 : Below n0 w5 X11 := hK0.trans (b11.mono hle0)
                  refine wpAnyH_ready (rs := [0, 6]) (by kernel_rfl) (by simp) ?_
                  refine rdy_val (i := 0) rfl rfl (some 42) rfl (.slice (some ⟨Wd.heap.size, 0, none⟩) 0 0) X1 (by rw [hX1]; exact ix_mk0 rfl) k1 (fun hHeld => ?br16a) (rdy_val (i := 6) rfl rfl (some 48) rfl (.slice (some ⟨Wd.heap.size, 0, none⟩) 1 1) X11 (by rw [hX11]; exact ix_mk1 (x := .tmp 47) rfl (by kernel_rfl)) k11 (fun hHeld => ?br16b) rdy_nil)
                  case br16a =>
                    simp only [Act.put, List.setIfInBounds_toArray, List.set_cons_succ, List.set_cons_zero]
                    obtain ⟨ga2, gc2, X2, r2, o2, g2⟩ := ixApp X1 n0 (.slice (some ⟨Wd.heap.size, 0, none⟩) 0 0) 0 [] o1 l1 fa p fc (Lo.take p) (HSA.out X1 k1) p (by omega) (by omega)
                    have l2 : n0 ≤ X2.heap.size := Nat.le_trans l1 g2.size
                    have k2 : Below n0 w5 X2 := k1.grown g2 l1 (fun b hb => (o1.lt b hb).1)
                    obtain ⟨X6, hX6⟩ : ∃ W, W = X1.alloc (.cells #[.int .i64 n] 3) := ⟨_, rfl⟩
                    have b6 : Below X1.heap.size X1 X6 := by rw [hX6]; exact (Below.refl _ X1).alloc (Nat.le_refl _) _
                    have e6 : X6.heap[X1.heap.size]? = some (.cells #[.int .i64 n] 3 (0, 0)) := by rw [hX6]; exact heap_alloc_new X1 _
                    have l6 : n0 ≤ X6.heap.size := Nat.le_trans l1 b6.size
                    have k6 : Below n0 w5 X6 := k1.trans (b6.mono l1)
                    have o6 := own_skip o1 b6
                    have d6 : Wd.heap.size ≠ X1.heap.size := by have := (Array.getElem?_eq_some_iff.1 q1).1; omega
                    refine wpAnyH_ready (rs := [4, 6]) (by kernel_rfl) (by simp) ?_
                    refine rdy_val (i := 4) rfl rfl (some 46) rfl (.slice ga2 p gc2) X2 (ix_appr (x := .tmp 42) (y := .tmp 45) rfl (by kernel_rfl) (by kernel_rfl) r2) k2 (fun hHeld => ?br10a) (rdy_val (i := 6) rfl rfl (some 48) rfl (.slice (some ⟨X1.heap.size, 0, none⟩) 1 1) X6 (by rw [hX6]; exact ix_mk1 (x := .tmp 47) rfl (by kernel_rfl)) k6 (fun hHeld => ?br10b) rdy_nil)
                    case br10a =>
                      simp only [Act.put, List.setIfInBounds_toArray, List.set_cons_succ, List.set_cons_zero]
                      obtain ⟨X3, hX3⟩ : ∃ W, W = X2.alloc (.cells #[.int .i64 n] 3) := ⟨_, rfl⟩
                      have b3 : Below X2.heap.size X2 X3 := by rw [hX3]; exact (Below.refl _ X2).alloc (Nat.le_refl _) _
                      have e3 : X3.heap[X2.heap.size]? = some (.cells #[.int .i64 n] 3 (0, 0)) := by rw [hX3]; exact heap_alloc_new X2 _
                      have l3 : n0 ≤ X3.heap.size := Nat.le_trans l2 b3.size
                      have k3 : Below n0 w5 X3 := k2.trans (b3.mono l2)
                      have o3 := own_skip o2 b3
                      refine wpAnyH_ready (rs := [6]) (by kernel_rfl) (by simp) ?_
                      refine rdy_val (i := 6) rfl rfl (some 48) rfl (.slice (some ⟨X2.heap.size, 0, none⟩) 1 1) X3 (by rw [hX3]; exact ix_mk1 (x := .tmp 47) rfl (by kernel_rfl)) k3 (fun hHeld => ?_) rdy_nil
                      simp only [Act.put, List.setIfInBounds_toArray, List.set_cons_succ, List.set_cons_zero]
                      obtain ⟨ga4, gc4, X4, r4, o4, g4⟩ := ixApp X3 n0 (.slice ga2 p gc2) p ([] ++ ivs (Lo.take p)) o3 l3 (some ⟨X2.heap.size, 0, none⟩) 1 1 [n] (ix_n1 e3) kn1 (by omega) (by omega)
                      have l4 : n0 ≤ X4.heap.size := Nat.le_trans l3 g4.size
                      have k4 : Below n0 w5 X4 := k3.grown g4 l3 (fun b hb => (o3.lt b hb).1)
                      refine wpAnyH_ready (rs := [7]) (by kernel_rfl) (by simp) ?_
                      refine rdy_val (i := 7) rfl rfl (some 49) rfl (.slice ga4 kn1 gc4) X4 (ix_appr (x := .tmp 46) (y := .tmp 48) rfl (by kernel_rfl) (by kernel_rfl) r4) k4 (fun hHeld => ?_) rdy_nil
                      simp only [Act.put, List.setIfInBounds_toArray, List.set_cons_succ, List.set_cons_zero]
                      obtain ⟨ga5, gc5, X5, r5, o5, g5⟩ := ixApp X4 n0 (.slice ga4 kn1 gc4) kn1 ([] ++ ivs (Lo.take p) ++ ivs [n]) o4 l4 a2 m2 c2 (Lo.drop p) (HSB.out X4 k4) n9 (by omega) (by omega)
                      have l5 : n0 ≤ X5.heap.size := Nat.le_trans l4 g5.size
                      have k5 : Below n0 w5 X5 := k4.grown g5 l4 (fun b hb => (o4.lt b hb).1)
                      refine wpAnyH_ready (rs := [11]) (by kernel_rfl) (by simp) ?_
                      refine rdy_val (i := 11) rfl rfl (some 53) rfl (.slice ga5 n9 gc5) X5 (ix_appr (x := .tmp 49) (y := .tmp 52) rfl (by kernel_rfl) (by kernel_rfl) r5) k5 (fun hHeld => ?_) rdy_nil
                      simp only [Act.put, List.setIfInBounds_toArray, List.set_cons_succ, List.set_cons_zero]
                      refine drawn_take (i := 12) (v := (.slice ga5 n9 gc5)) (some 7) rfl rfl (by kernel_rfl) (by kernel_rfl) (by kernel_rfl) (fun _ _ _ h => h) (Or.inl ⟨by kernel_rfl, fun wq hw => by go_simp⟩) hHeld ?_
                      simp only [Act.put, List.setIfInBounds_toArray, List.set_cons_succ, List.set_cons_zero]
                      refine wpAnyH_done (by kernel_rfl) ?_ _
                      refine NoPanic.normal ?_
                      clear hHeld
                      exact ⟨rfl, _, ⟨.slice (some ⟨Wd.heap.size, 0, none⟩) 0 0, .slice ga2 p gc2, .slice (some ⟨X2.heap.size, 0, none⟩) 1 1, .slice ga4 kn1 gc4, _, _, (), rfl, k5, o5⟩, by kernel_rfl⟩
                    case br10b =>
                      simp only [Act.put, List.setIfInBounds_toArray, List.set_cons_succ, List.set_cons_zero]
                      obtain ⟨ga7, gc7, X7, r7, o7, g7⟩ := ixApp X6 n0 (.slice (some ⟨Wd.heap.size, 0, none⟩) 0 0) 0 [] o6 l6 fa p fc (Lo.take p) (HSA.out X6 k6) p (by omega) (by omega)
                      have l7 : n0 ≤ X7.heap.size := Nat.le_trans l6 g7.size
                      have k7 : Below n0 w5 X7 := k6.grown g7 l6 (fun b hb => (o6.lt b hb).1)
                      have e7 := (g7.block X1.heap.size (Array.getElem?_eq_some_iff.1 e6).1 (fun e => d6 (Option.some.inj e).symm)).trans e6
                      refine wpAnyH_ready (rs := [4]) (by kernel_rfl) (by simp) ?_
                      refine rdy_val (i := 4) rfl rfl (some 46) rfl (.slice ga7 p gc7) X7 (ix_appr (x := .tmp 42) (y := .tmp 45) rfl (by kernel_rfl) (by kernel_rfl) r7) k7 (fun hHeld => ?_) rdy_nil
                      simp only [Act.put, List.setIfInBounds_toArray, List.set_cons_succ, List.set_cons_zero]
                      obtain ⟨ga8, gc8, X8, r8, o8, g8⟩ := ixApp X7 n0 (.slice ga7 p gc7) p ([] ++ ivs (Lo.take p)) o7 l7 (some ⟨X1.heap.size, 0, none⟩) 1 1 [n] (ix_n1 e7) kn1 (by omega) (by omega)
                      have l8 : n0 ≤ X8.heap.size := Nat.le_trans l7 g8.size
                      have k8 : Below n0 w5 X8 := k7.grown g8 l7 (fun b hb => (o7.lt b hb).1)
                      refine wpAnyH_ready (rs := [7]) (by kernel_rfl) (by simp) ?_
                      refine rdy_val (i := 7) rfl rfl (some 49) rfl (.slice ga8 kn1 gc8) X8 (ix_appr (x := .tmp 46) (y := .tmp 48) rfl (by kernel_rfl) (by kernel_rfl) r8) k8 (fun hHeld => ?_) rdy_nil
                      simp only [Act.put, List.setIfInBounds_toArray, List.set_cons_succ, List.set_cons_zero]
                      obtain ⟨ga9, gc9, X9, r9, o9, g9⟩ := ixApp X8 n0 (.slice ga8 kn1 gc8) kn1 ([] ++ ivs (Lo.take p) ++ ivs [n]) o8 l8 a2 m2 c2 (Lo.drop p) (HSB.out X8 k8) n9 (by omega) (by omega)
                      have l9 : n0 ≤ X9.heap.size := Nat.le_trans l8 g9.size
                      have k9 : Below n0 w5 X9 := k8.grown g9 l8 (fun b hb => (o8.lt b hb).1)
                      refine wpAnyH_ready (rs := [11]) (by kernel_rfl) (by simp) ?_
                      refine rdy_val (i := 11) rfl rfl (some 53) rfl (.slice ga9 n9 gc9) X9 (ix_appr (x := .tmp 49) (y := .tmp 52) rfl (by kernel_rfl) (by kernel_rfl) r9) k9 (fun hHeld => ?_) rdy_nil
                      simp only [Act.put, List.setIfInBounds_toArray, List.set_cons_succ, List.set_cons_zero]
                      refine drawn_take (i := 12) (v := (.slice ga9 n9 gc9)) (some 7) rfl rfl (by kernel_rfl) (by kernel_rfl) (by kernel_rfl) (fun _ _ _ h => h) (Or.inl ⟨by kernel_rfl, fun wq hw => by go_simp⟩) hHeld ?_
                      simp only [Act.put, List.setIfInBounds_toArray, List.set_cons_succ, List.set_cons_zero]
                      refine wpAnyH_done (by kernel_rfl) ?_ _
                      refine NoPanic.normal ?_
                      clear hHeld
                      exact ⟨rfl, _, ⟨.slice (some ⟨Wd.heap.size, 0, none⟩) 0 0, .slice ga7 p gc7, .slice (some ⟨X1.heap.size, 0, none⟩) 1 1, .slice ga8 kn1 gc8, _, _, (), rfl, k9, o9⟩, by kernel_rfl⟩
                  case br16b =>
                    simp only [Act.put, List.setIfInBounds_toArray, List.set_cons_succ, List.set_cons_zero]
                    obtain ⟨X12, hX12⟩ : ∃ W, W = X11.alloc (.cells #[] 3) := ⟨_, rfl⟩
                    have b12 : Below X11.heap.size X11 X12 := by rw [hX12]; exact (Below.refl _ X11).alloc (Nat.le_refl _) _
                    have q12 : X12.heap[X11.heap.size]? = some (.cells #[] 3 (0, 0)) := by rw [hX12]; exact heap_alloc_new X11 _
                    have l12 : n0 ≤ X12.heap.size := Nat.le_trans l11 b12.size
                    have k12 : Below n0 w5 X12 := k11.trans (b12.mono l11)
                    have o12 := ix_empty q12 l11
                    have e12 := (b12.block Wd.heap.size (Array.getElem?_eq_some_iff.1 e11).1).trans e11
                    have d12 : X11.heap.size ≠ Wd.heap.size := by have := (Array.getElem?_eq_some_iff.1 e11).1; omega
                    refine wpAnyH_ready (rs := [0]) (by kernel_rfl) (by simp) ?_
                    refine rdy_val (i := 0) rfl rfl (some 42) rfl (.slice (some ⟨X11.heap.size, 0, none⟩) 0 0) X12 (by rw [hX12]; exact ix_mk0 rfl) k12 (fun hHeld => ?_) rdy_nil
                    simp only [Act.put, List.setIfInBounds_toArray, List.set_cons_succ, List.set_cons_zero]
                    obtain ⟨ga13, gc13, X13, r13, o13, g13⟩ := ixApp X12 n0 (.slice (some ⟨X11.heap.size, 0, none⟩) 0 0) 0 [] o12 l12 fa p fc (Lo.take p) (HSA.out X12 k12) p (by omega) (by omega)
                    have l13 : n0 ≤ X13.heap.size := Nat.le_trans l12 g13.size
                    have k13 : Below n0 w5 X13 := k12.grown g13 l12 (fun b hb => (o12.lt b hb).1)
                    have e13 := (g13.block Wd.heap.size (Array.getElem?_eq_some_iff.1 e12).1 (fun e => d12 (Option.some.inj e).symm)).trans e12
                    refine wpAnyH_ready (rs := [4]) (by kernel_rfl) (by simp) ?_
                    refine rdy_val (i := 4) rfl rfl (some 46) rfl (.slice ga13 p gc13) X13 (ix_appr (x := .tmp 42) (y := .tmp 45) rfl (by kernel_rfl) (by kernel_rfl) r13) k13 (fun hHeld => ?_) rdy_nil
                    simp only [Act.put, List.setIfInBounds_toArray, List.set_cons_succ, List.set_cons_zero]
                    obtain ⟨ga14, gc14, X14, r14, o14, g14⟩ := ixApp X13 n0 (.slice ga13 p gc13) p ([] ++ ivs (Lo.take p)) o13 l13 (some ⟨Wd.heap.size, 0, none⟩) 1 1 [n] (ix_n1 e13) kn1 (by omega) (by omega)
                    have l14 : n0 ≤ X14.heap.size := Nat.le_trans l13 g14.size
                    have k14 : Below n0 w5 X14 := k13.grown g14 l13 (fun b hb => (o13.lt b hb).1)
                    refine wpAnyH_ready (rs := [7]) (by kernel_rfl) (by simp) ?_
                    refine rdy_val (i := 7) rfl rfl (some 49) rfl (.slice ga14 kn1 gc14) X14 (ix_appr (x := .tmp 46) (y := .tmp 48) rfl (by kernel_rfl) (by kernel_rfl) r14) k14 (fun hHeld => ?_) rdy_nil
                    simp only [Act.put, List.setIfInBounds_toArray, List.set_cons_succ, List.set_cons_zero]
                    obtain ⟨ga15, gc15, X15, r15, o15, g15⟩ := ixApp X14 n0 (.slice ga14 kn1 gc14) kn1 ([] ++ ivs (Lo.take p) ++ ivs [n]) o14 l14 a2 m2 c2 (Lo.drop p) (HSB.out X14 k14) n9 (by omega) (by omega)
                    have l15 : n0 ≤ X15.heap.size := Nat.le_trans l14 g15.size
                    have k15 : Below n0 w5 X15 := k14.grown g15 l14 (fun b hb => (o14.lt b hb).1)
                    refine wpAnyH_ready (rs := [11]) (by kernel_rfl) (by simp) ?_
                    refine rdy_val (i := 11) rfl rfl (some 53) rfl (.slice ga15 n9 gc15) X15 (ix_appr (x := .tmp 49) (y := .tmp 52) rfl (by kernel_rfl) (by kernel_rfl) r15) k15 (fun hHeld => ?_) rdy_nil
                    simp only [Act.put, List.setIfInBounds_toArray, List.set_cons_succ, List.set_cons_zero]
                    refine drawn_take (i := 12) (v := (.slice ga15 n9 gc15)) (some 7) rfl rfl (by kernel_rfl) (by kernel_rfl) (by kernel_rfl) (fun _ _ _ h => h) (Or.inl ⟨by kernel_rfl, fun wq hw => by go_simp⟩) hHeld ?_
                    simp only [Act.put, List.setIfInBounds_toArray, List.set_cons_succ, List.set_cons_zero]
                    refine wpAnyH_done (by kernel_rfl) ?_ _
                    refine NoPanic.normal ?_
                    clear hHeld
                    exact ⟨rfl, _, ⟨.slice (some ⟨X11.heap.size, 0, none⟩) 0 0, .slice ga13 p gc13, .slice (some ⟨Wd.heap.size, 0, none⟩) 1 1, .slice ga14 kn1 gc14, _, _, (), rfl, k15, o15⟩, by kernel_rfl⟩
                · rintro li w6 ⟨x42, x46, x48, x49, ga, gc, _, rfl, hB6, ho6⟩
                  have HB6 : Below w5.heap.size w5 w6 := by rw [← HNE.out]; exact hB6
                  have hs5 : w.heap.size ≤ w5.heap.size := Nat.le_trans HB4.out.size HB3.out.size
                  have HOO : Hid (w6.ownsRow w.heap.size 3 1 (.slice ga n9 gc) (Lo.take p ++ n :: Lo.drop p).length (ivs (Lo.take p ++ n :: Lo.drop p))) := hidn (by
                    have e1 : (Lo.take p ++ n :: Lo.drop p).length = n9 := by
                      have := HN9.out
                      have := HN.out
                      simp
                      omega
                    have e2 : ivs (Lo.take p ++ n :: Lo.drop p) = [] ++ ivs (Lo.take p) ++ ivs [n] ++ ivs (Lo.drop p) := by simp [ivs]
                    rw [e1, e2]
                    exact own_lower ho6 (by rw [HNE.out]; exact hs5))
                  have HB7 := hidn (HB4.out.trans ((HB3.out.trans (HB6.mono HB3.out.size)).mono HB4.out.size))
                  clear hB6 ho6 HB6
                  simp only [ixPutAll, List.foldl_cons, List.foldl_nil, Act.put, List.setIfInBounds_toArray, List.set_cons_succ, List.set_cons_zero]
                  go_wp2_with fail
                  exact ⟨⟨k + 1, _, Lo.take p ++ n :: Lo.drop p, by omega, by simp, rfl, HST, HOO, HB7⟩, by simp [intOf]; omega⟩
              · have hp1 : (0 : Int) < (p : Int) := by omega
                have hqi : (p : Int) - 1 = (q : Int) := by omega
                have hqN : (q : Int) < (N : Int) := by omega
                have hqN2 : q < N := by omega
                clear hpq HTAIL
                subst hfa
                go_wp2_with fail
                refine ix_cut (fun li wx => ∃ (x42 x46 x48 x49 : Value) (ga : Option Addr) (gc : Nat) (u : Unit), li = [(43, .slice (some ⟨xb, xo, none⟩) N fc), (44, .int .i64 (p : Int)), (45, .slice (some ⟨xb, xo, none⟩) p fc), (47, .int .i64 n), (50, .slice (some ⟨xb, xo, none⟩) N fc), (51, .int .i64 (p : Int)), (52, .slice a2 m2 c2), (42, x42), (46, x46), (48, x48), (49, x49), (53, .slice ga n9 gc), (7, .slice ga n9 gc)] ∧ Below n0 w5 wx ∧ wx.ownsRow n0 3 1 (.slice ga n9 gc) n9 ([] ++ ivs (Lo.take p) ++ ivs [n] ++ ivs (Lo.drop p))) ?_ ?_
                · obtain ⟨Wd, hWd⟩ : ∃ Wd, Wd = w5.drew := ⟨_, rfl⟩
                  have hK0 : Below n0 w5 Wd := by rw [hWd]; exact (Below.refl n0 w5).drew
                  have hle0 : n0 ≤ Wd.heap.size := by rw [hWd, HNE.out]; exact Nat.le_refl _
                  refine wp_region_noPanic ?_
                  refine wp_region_held_drew (S := Below n0 w5) (by kernel_rfl) ((Below.refl n0 w5).drew) (fun hHeld => ?_)
                  rw [← hWd] at hHeld ⊢
                  clear hWd
                  refine drawn_take (i := 1) (v := .slice (some ⟨xb, xo, none⟩) N fc) (some 43) rfl rfl (by kernel_rfl) (by kernel_rfl) (by kernel_rfl) (fun _ _ _ h => h) (Or.inl ⟨by kernel_rfl, fun wq hw => by go_simp⟩) hHeld ?_
                  simp only [Act.put, List.setIfInBounds_toArray, List.set_cons_succ, List.set_cons_zero]
                  refine drawn_take (i := 2) (v := .int .i64 (p : Int)) (some 44) rfl rfl (by kernel_rfl) (by kernel_rfl) (by kernel_rfl) (fun _ _ _ h => h) (Or.inl ⟨by kernel_rfl, fun wq hw => by go_simp⟩) hHeld ?_
                  simp only [Act.put, List.setIfInBounds_toArray, List.set_cons_succ, List.set_cons_zero]
                  refine drawn_take (i := 3) (v := .slice (some ⟨xb, xo, none⟩) p fc) (some 45) rfl rfl (by kernel_rfl) (by kernel_rfl) (by kernel_rfl) (fun _ _ _ h => h) (Or.inl ⟨by kernel_rfl, fun wq hw => ix_slH (N := N) (x := .tmp 43) (z := .tmp 44) rfl (by kernel_rfl) (by kernel_rfl) hfp⟩) hHeld ?_
                  simp only [Act.put, List.setIfInBounds_toArray, List.set_cons_succ, List.set_cons_zero]
                  refine drawn_take (i := 5) (v := .int .i64 n) (some 47) rfl rfl (by kernel_rfl) (by kernel_rfl) (by kernel_rfl) (fun _ _ _ h => h) (Or.inl ⟨by kernel_rfl, fun wq hw => by go_simp⟩) hHeld ?_
                  simp only [Act.put, List.setIfInBounds_toArray, List.set_cons_succ, List.set_cons_zero]
                  refine drawn_take (i := 8) (v := .slice (some ⟨xb, xo, none⟩) N fc) (some 50) rfl rfl (by kernel_rfl) (by kernel_rfl) (by kernel_rfl) (fun _ _ _ h => h) (Or.inl ⟨by kernel_rfl, fun wq hw => by go_simp⟩) hHeld ?_
                  simp only [Act.put, List.setIfInBounds_toArray, List.set_cons_succ, List.set_cons_zero]
                  refine drawn_take (i := 9) (v := .int .i64 (p : Int)) (some 51) rfl rfl (by kernel_rfl) (by kernel_rfl) (by kernel_rfl) (fun _ _ _ h => h) (Or.inl ⟨by kernel_rfl, fun wq hw => by go_simp⟩) hHeld ?_
                  simp only [Act.put, List.setIfInBounds_toArray, List.set_cons_succ, List.set_cons_zero]
                  refine drawn_take (i := 10) (v := .slice a2 m2 c2) (some 52) rfl rfl (by kernel_rfl) (by kernel_rfl) (by kernel_rfl) (fun _ _ _ h => h) (Or.inl ⟨by kernel_rfl, fun wq hw => ix_slL (x := .tmp 50) (z := .tmp 51) rfl (by kernel_rfl) (by kernel_rfl) hpN HA2 HM2 HC2⟩) hHeld ?_
                  simp only [Act.put, List.setIfInBounds_toArray, List.set_cons_succ, List.set_cons_zero]
                  obtain ⟨X1, hX1⟩ : ∃ W, W = Wd.alloc (.cells #[] 3) := ⟨_, rfl⟩
                  have b1 : Below Wd.heap.size Wd X1 := by rw [hX1]; exact (Below.refl _ Wd).alloc (Nat.le_refl _) _
                  have q1 : X1.heap[Wd.heap.size]? = some (.cells #[] 3 (0, 0)) := by rw [hX1]; exact heap_alloc_new Wd _
                  have l1 : n0 ≤ X1.heap.size := Nat.le_trans hle0 b1.size
                  have k1 : Below n0 w5 X1 := hK0.trans (b1.mono hle0)
                  have o1 := ix_empty q1 hle0
                  obtain ⟨X11, hX11⟩ : ∃ W, W = Wd.alloc (.cells #[.int .i64 n] 3) := ⟨_, rfl⟩
                  have b11 : Below Wd.heap.size Wd X11 := by rw [hX11]; exact (Below.refl _ Wd).alloc (Nat.le_refl _) _
                  have e11 : X11.heap[Wd.heap.size]? = some (.cells #[.int .i64 n] 3 (0, 0)) := by rw [hX11]; exact heap_alloc_new Wd _
                  have l11 : n0 ≤ X11.heap.size := Nat.le_trans hle0 b11.size
                  have k11 : Below n0 w5 X11 := hK0.trans (b11.mono hle0)
                  refine wpAnyH_ready (rs := [0, 6]) (by kernel_rfl) (by simp) ?_
                  refine rdy_val (i := 0) rfl rfl (some 42) rfl (.slice (some ⟨Wd.heap.size, 0, none⟩) 0 0) X1 (by rw [hX1]; exact ix_mk0 rfl) k1 (fun hHeld => ?br16a) (rdy_val (i := 6) rfl rfl (some 48) rfl (.slice (some ⟨Wd.heap.size, 0, none⟩) 1 1) X11 (by rw [hX11]; exact ix_mk1 (x := .tmp 47) rfl (by kernel_rfl)) k11 (fun hHeld => ?br16b) rdy_nil)
                  case br16a =>
                    simp only [Act.put, List.setIfInBounds_toArray, List.set_cons_succ, List.set_cons_zero]
                    obtain ⟨ga2, gc2, X2, r2, o2, g2⟩ := ixApp X1 n0 (.slice (some ⟨Wd.heap.size, 0, none⟩) 0 0) 0 [] o1 l1 (some ⟨xb, xo, none⟩) p fc (Lo.take p) (HSA.out X1 k1) p (by omega) (by omega)
                    have l2 : n0 ≤ X2.heap.size := Nat.le_trans l1 g2.size
                    have k2 : Below n0 w5 X2 := k1.grown g2 l1 (fun b hb => (o1.lt b hb).1)
                    obtain ⟨X6, hX6⟩ : ∃ W, W = X1.alloc (.cells #[.int .i64 n] 3) := ⟨_, rfl⟩
                    have b6 : Below X1.heap.size X1 X6 := by rw [hX6]; exact (Below.refl _ X1).alloc (Nat.le_refl _) _
                    have e6 : X6.heap[X1.heap.size]? = some (.cells #[.int .i64 n] 3 (0, 0)) := by rw [hX6]; exact heap_alloc_new X1 _
                    have l6 : n0 ≤ X6.heap.size := Nat.le_trans l1 b6.size
                    have k6 : Below n0 w5 X6 := k1.trans (b6.mono l1)
                    have o6 := own_skip o1 b6
                    have d6 : Wd.heap.size ≠ X1.heap.size := by have := (Array.getElem?_eq_some_iff.1 q1).1; omega
                    refine wpAnyH_ready (rs := [4, 6]) (by kernel_rfl) (by simp) ?_
                    refine rdy_val (i := 4) rfl rfl (some 46) rfl (.slice ga2 p gc2) X2 (ix_appr (x := .tmp 42) (y := .tmp 45) rfl (by kernel_rfl) (by kernel_rfl) r2) k2 (fun hHeld => ?br10a) (rdy_val (i := 6) rfl rfl (some 48) rfl (.slice (some ⟨X1.heap.size, 0, none⟩) 1 1) X6 (by rw [hX6]; exact ix_mk1 (x := .tmp 47) rfl (by kernel_rfl)) k6 (fun hHeld => ?br10b) rdy_nil)
                    case br10a =>
                      simp only [Act.put, List.setIfInBounds_toArray, List.set_cons_succ, List.set_cons_zero]
                      obtain ⟨X3, hX3⟩ : ∃ W, W = X2.alloc (.cells #[.int .i64 n] 3) := ⟨_, rfl⟩
                      have b3 : Below X2.heap.size X2 X3 := by rw [hX3]; exact (Below.refl _ X2).alloc (Nat.le_refl _) _
                      have e3 : X3.heap[X2.heap.size]? = some (.cells #[.int .i64 n] 3 (0, 0)) := by rw [hX3]; exact heap_alloc_new X2 _
                      have l3 : n0 ≤ X3.heap.size := Nat.le_trans l2 b3.size
                      have k3 : Below n0 w5 X3 := k2.trans (b3.mono l2)
                      have o3 := own_skip o2 b3
                      refine wpAnyH_ready (rs := [6]) (by kernel_rfl) (by simp) ?_
                      refine rdy_val (i := 6) rfl rfl (some 48) rfl (.slice (some ⟨X2.heap.size, 0, none⟩) 1 1) X3 (by rw [hX3]; exact ix_mk1 (x := .tmp 47) rfl (by kernel_rfl)) k3 (fun hHeld => ?_) rdy_nil
                      simp only [Act.put, List.setIfInBounds_toArray, List.set_cons_succ, List.set_cons_zero]
                      obtain ⟨ga4, gc4, X4, r4, o4, g4⟩ := ixApp X3 n0 (.slice ga2 p gc2) p ([] ++ ivs (Lo.take p)) o3 l3 (some ⟨X2.heap.size, 0, none⟩) 1 1 [n] (ix_n1 e3) kn1 (by omega) (by omega)
                      have l4 : n0 ≤ X4.heap.size := Nat.le_trans l3 g4.size
                      have k4 : Below n0 w5 X4 := k3.grown g4 l3 (fun b hb => (o3.lt b hb).1)
                      refine wpAnyH_ready (rs := [7]) (by kernel_rfl) (by simp) ?_
                      refine rdy_val (i := 7) rfl rfl (some 49) rfl (.slice ga4 kn1 gc4) X4 (ix_appr (x := .tmp 46) (y := .tmp 48) rfl (by kernel_rfl) (by kernel_rfl) r4) k4 (fun hHeld => ?_) rdy_nil
                      simp only [Act.put, List.setIfInBounds_toArray, List.set_cons_succ, List.set_cons_zero]
                      obtain ⟨ga5, gc5, X5, r5, o5, g5⟩ := ixApp X4 n0 (.slice ga4 kn1 gc4) kn1 ([] ++ ivs (Lo.take p) ++ ivs [n]) o4 l4 a2 m2 c2 (Lo.drop p) (HSB.out X4 k4) n9 (by omega) (by omega)
                      have l5 : n0 ≤ X5.heap.size := Nat.le_trans l4 g5.size
                      have k5 : Below n0 w5 X5 := k4.grown g5 l4 (fun b hb => (o4.lt b hb).1)
                      refine wpAnyH_ready (rs := [11]) (by kernel_rfl) (by simp) ?_
                      refine rdy_val (i := 11) rfl rfl (some 53) rfl (.slice ga5 n9 gc5) X5 (ix_appr (x := .tmp 49) (y := .tmp 52) rfl (by kernel_rfl) (by kernel_rfl) r5) k5 (fun hHeld => ?_) rdy_nil
                      simp only [Act.put, List.setIfInBounds_toArray, List.set_cons_succ, List.set_cons_zero]
                      refine drawn_take (i := 12) (v := (.slice ga5 n9 gc5)) (some 7) rfl rfl (by kernel_rfl) (by kernel_rfl) (by kernel_rfl) (fun _ _ _ h => h) (Or.inl ⟨by kernel_rfl, fun wq hw => by go_simp⟩) hHeld ?_
                      simp only [Act.put, List.setIfInBounds_toArray, List.set_cons_succ, List.set_cons_zero]
                      refine wpAnyH_done (by kernel_rfl) ?_ _
                      refine NoPanic.normal ?_
                      clear hHeld
                      exact ⟨rfl, _, ⟨.slice (some ⟨Wd.heap.size, 0, none⟩) 0 0, .slice ga2 p gc2, .slice (some ⟨X2.heap.size, 0, none⟩) 1 1, .slice ga4 kn1 gc4, _, _, (), rfl, k5, o5⟩, by kernel_rfl⟩
                    case br10b =>
                      simp only [Act.put, List.setIfInBounds_toArray, List.set_cons_succ, List.set_cons_zero]
                      obtain ⟨ga7, gc7, X7, r7, o7, g7⟩ := ixApp X6 n0 (.slice (some ⟨Wd.heap.size, 0, none⟩) 0 0) 0 [] o6 l6 (some ⟨xb, xo, none⟩) p fc (Lo.take p) (HSA.out X6 k6) p (by omega) (by omega)
                      have l7 : n0 ≤ X7.heap.size := Nat.le_trans l6 g7.size
                      have k7 : Below n0 w5 X7 := k6.grown g7 l6 (fun b hb => (o6.lt b hb).1)
                      have e7 := (g7.block X1.heap.size (Array.getElem?_eq_some_iff.1 e6).1 (fun e => d6 (Option.some.inj e).symm)).trans e6
                      refine wpAnyH_ready (rs := [4]) (by kernel_rfl) (by simp) ?_
                      refine rdy_val (i := 4) rfl rfl (some 46) rfl (.slice ga7 p gc7) X7 (ix_appr (x := .tmp 42) (y := .tmp 45) rfl (by kernel_rfl) (by kernel_rfl) r7) k7 (fun hHeld => ?_) rdy_nil
                      simp only [Act.put, List.setIfInBounds_toArray, List.set_cons_succ, List.set_cons_zero]
                      obtain ⟨ga8, gc8, X8, r8, o8, g8⟩ := ixApp X7 n0 (.slice ga7 p gc7) p ([] ++ ivs (Lo.take p)) o7 l7 (some ⟨X1.heap.size, 0, none⟩) 1 1 [n] (ix_n1 e7) kn1 (by omega) (by omega)
                      have l8 : n0 ≤ X8.heap.size := Nat.le_trans l7 g8.size
                      have k8 : Below n0 w5 X8 := k7.grown g8 l7 (fun b hb => (o7.lt b hb).1)
                      refine wpAnyH_ready (rs := [7]) (by kernel_rfl) (by simp) ?_
                      refine rdy_val (i := 7) rfl rfl (some 49) rfl (.slice ga8 kn1 gc8) X8 (ix_appr (x := .tmp 46) (y := .tmp 48) rfl (by kernel_rfl) (by kernel_rfl) r8) k8 (fun hHeld => ?_) rdy_nil
                      simp only [Act.put, List.setIfInBounds_toArray, List.set_cons_succ, List.set_cons_zero]
                      obtain ⟨ga9, gc9, X9, r9, o9, g9⟩ := ixApp X8 n0 (.slice ga8 kn1 gc8) kn1 ([] ++ ivs (Lo.take p) ++ ivs [n]) o8 l8 a2 m2 c2 (Lo.drop p) (HSB.out X8 k8) n9 (by omega) (by omega)
                      have l9 : n0 ≤ X9.heap.size := Nat.le_trans l8 g9.size
                      have k9 : Below n0 w5 X9 := k8.grown g9 l8 (fun b hb => (o8.lt b hb).1)
                      refine wpAnyH_ready (rs := [11]) (by kernel_rfl) (by simp) ?_
                      refine rdy_val (i := 11) rfl rfl (some 53) rfl (.slice ga9 n9 gc9) X9 (ix_appr (x := .tmp 49) (y := .tmp 52) rfl (by kernel_rfl) (by kernel_rfl) r9) k9 (fun hHeld => ?_) rdy_nil
                      simp only [Act.put, List.setIfInBounds_toArray, List.set_cons_succ, List.set_cons_zero]
                      refine drawn_take (i := 12) (v := (.slice ga9 n9 gc9)) (some 7) rfl rfl (by kernel_rfl) (by kernel_rfl) (by kernel_rfl) (fun _ _ _ h => h) (Or.inl ⟨by kernel_rfl, fun wq hw => by go_simp⟩) hHeld ?_
                      simp only [Act.put, List.setIfInBounds_toArray, List.set_cons_succ, List.set_cons_zero]
                      refine wpAnyH_done (by kernel_rfl) ?_ _
                      refine NoPanic.normal ?_
                      clear hHeld
                      exact ⟨rfl, _, ⟨.slice (some ⟨Wd.heap.size, 0, none⟩) 0 0, .slice ga7 p gc7, .slice (some ⟨X1.heap.size, 0, none⟩) 1 1, .slice ga8 kn1 gc8, _, _, (), rfl, k9, o9⟩, by kernel_rfl⟩
                  case br16b =>
                    simp only [Act.put, List.setIfInBounds_toArray, List.set_cons_succ, List.set_cons_zero]
                    obtain ⟨X12, hX12⟩ : ∃ W, W = X11.alloc (.cells #[] 3) := ⟨_, rfl⟩
                    have b12 : Below X11.heap.size X11 X12 := by rw [hX12]; exact (Below.refl _ X11).alloc (Nat.le_refl _) _
                    have q12 : X12.heap[X11.heap.size]? = some (.cells #[] 3 (0, 0)) := by rw [hX12]; exact heap_alloc_new X11 _
                    have l12 : n0 ≤ X12.heap.size := Nat.le_trans l11 b12.size
                    have k12 : Below n0 w5 X12 := k11.trans (b12.mono l11)
                    have o12 := ix_empty q12 l11
                    have e12 := (b12.block Wd.heap.size (Array.getElem?_eq_some_iff.1 e11).1).trans e11
                    have d12 : X11.heap.size ≠ Wd.heap.size := by have := (Array.getElem?_eq_some_iff.1 e11).1; omega
                    refine wpAnyH_ready (rs := [0]) (by kernel_rfl) (by simp) ?_
                    refine rdy_val (i := 0) rfl rfl (some 42) rfl (.slice (some ⟨X11.heap.size, 0, none⟩) 0 0) X12 (by rw [hX12]; exact ix_mk0 rfl) k12 (fun hHeld => ?_) rdy_nil
                    simp only [Act.put, List.setIfInBounds_toArray, List.set_cons_succ, List.set_cons_zero]
                    obtain ⟨ga13, gc13, X13, r13, o13, g13⟩ := ixApp X12 n0 (.slice (some ⟨X11.heap.size, 0, none⟩) 0 0) 0 [] o12 l12 (some ⟨xb, xo, none⟩) p fc (Lo.take p) (HSA.out X12 k12) p (by omega) (by omega)
                    have l13 : n0 ≤ X13.heap.size := Nat.le_trans l12 g13.size
                    have k13 : Below n0 w5 X13 := k12.grown g13 l12 (fun b hb => (o12.lt b hb).1)
                    have e13 := (g13.block Wd.heap.size (Array.getElem?_eq_some_iff.1 e12).1 (fun e => d12 (Option.some.inj e).symm)).trans e12
                    refine wpAnyH_ready (rs := [4]) (by kernel_rfl) (by simp) ?_
                    refine rdy_val (i := 4) rfl rfl (some 46) rfl (.slice ga13 p gc13) X13 (ix_appr (x := .tmp 42) (y := .tmp 45) rfl (by kernel_rfl) (by kernel_rfl) r13) k13 (fun hHeld => ?_) rdy_nil
                    simp only [Act.put, List.setIfInBounds_toArray, List.set_cons_succ, List.set_cons_zero]
                    obtain ⟨ga14, gc14, X14, r14, o14, g14⟩ := ixApp X13 n0 (.slice ga13 p gc13) p ([] ++ ivs (Lo.take p)) o13 l13 (some ⟨Wd.heap.size, 0, none⟩) 1 1 [n] (ix_n1 e13) kn1 (by omega) (by omega)
                    have l14 : n0 ≤ X14.heap.size := Nat.le_trans l13 g14.size
                    have k14 : Below n0 w5 X14 := k13.grown g14 l13 (fun b hb => (o13.lt b hb).1)
                    refine wpAnyH_ready (rs := [7]) (by kernel_rfl) (by simp) ?_
                    refine rdy_val (i := 7) rfl rfl (some 49) rfl (.slice ga14 kn1 gc14) X14 (ix_appr (x := .tmp 46) (y := .tmp 48) rfl (by kernel_rfl) (by kernel_rfl) r14) k14 (fun hHeld => ?_) rdy_nil
                    simp only [Act.put, List.setIfInBounds_toArray, List.set_cons_succ, List.set_cons_zero]
                    obtain ⟨ga15, gc15, X15, r15, o15, g15⟩ := ixApp X14 n0 (.slice ga14 kn1 gc14) kn1 ([] ++ ivs (Lo.take p) ++ ivs [n]) o14 l14 a2 m2 c2 (Lo.drop p) (HSB.out X14 k14) n9 (by omega) (by omega)
                    have l15 : n0 ≤ X15.heap.size := Nat.le_trans l14 g15.size
                    have k15 : Below n0 w5 X15 := k14.grown g15 l14 (fun b hb => (o14.lt b hb).1)
                    refine wpAnyH_ready (rs := [11]) (by kernel_rfl) (by simp) ?_
                    refine rdy_val (i := 11) rfl rfl (some 53) rfl (.slice ga15 n9 gc15) X15 (ix_appr (x := .tmp 49) (y := .tmp 52) rfl (by kernel_rfl) (by kernel_rfl) r15) k15 (fun hHeld => ?_) rdy_nil
                    simp only [Act.put, List.setIfInBounds_toArray, List.set_cons_succ, List.set_cons_zero]
                    refine drawn_take (i := 12) (v := (.slice ga15 n9 gc15)) (some 7) rfl rfl (by kernel_rfl) (by kernel_rfl) (by kernel_rfl) (fun _ _ _ h => h) (Or.inl ⟨by kernel_rfl, fun wq hw => by go_simp⟩) hHeld ?_
                    simp only [Act.put, List.setIfInBounds_toArray, List.set_cons_succ, List.set_cons_zero]
                    refine wpAnyH_done (by kernel_rfl) ?_ _
                    refine NoPanic.normal ?_
                    clear hHeld
                    exact ⟨rfl, _, ⟨.slice (some ⟨X11.heap.size, 0, none⟩) 0 0, .slice ga13 p gc13, .slice (some ⟨Wd.heap.size, 0, none⟩) 1 1, .slice ga14 kn1 gc14, _, _, (), rfl, k15, o15⟩, by kernel_rfl⟩
                · rintro li w6 ⟨x42, x46, x48, x49, ga, gc, _, rfl, hB6, ho6⟩
                  have HB6 : Below w5.heap.size w5 w6 := by rw [← HNE.out]; exact hB6
                  have hs5 : w.heap.size ≤ w5.heap.size := Nat.le_trans HB4.out.size HB3.out.size
                  have HOO : Hid (w6.ownsRow w.heap.size 3 1 (.slice ga n9 gc) (Lo.take p ++ n :: Lo.drop p).length (ivs (Lo.take p ++ n :: Lo.drop p))) := hidn (by
                    have e1 : (Lo.take p ++ n :: Lo.drop p).length = n9 := by
                      have := HN9.out
                      have := HN.out
                      simp
                      omega
                    have e2 : ivs (Lo.take p ++ n :: Lo.drop p) = [] ++ ivs (Lo.take p) ++ ivs [n] ++ ivs (Lo.drop p) := by simp [ivs]
                    rw [e1, e2]
                    exact own_lower ho6 (by rw [HNE.out]; exact hs5))
                  have HB7 := hidn (HB4.out.trans ((HB3.out.trans (HB6.mono HB3.out.size)).mono HB4.out.size))
                  clear hB6 ho6 HB6
                  simp only [ixPutAll, List.foldl_cons, List.foldl_nil, Act.put, List.setIfInBounds_toArray, List.set_cons_succ, List.set_cons_zero]
                  go_wp2_with fail
                  exact ⟨⟨k + 1, _, Lo.take p ++ n :: Lo.drop p, by omega, by simp, rfl, HST, HOO, HB7⟩, by simp [intOf]; omega⟩
      · have hri2 : (r1 != inb) = true := by simp [hri]
        have HSN := hidn (HS.out.skip HNK.out (.inl (by rw [← HR1.out]; exact hri)))
        have HON : Hid (w1.ownsRow w.heap.size 3 1 (.slice fa N fc) Lo.length (ivs Lo)) := hidn (by rw [← HN.out]; exact own_skip HO1.out Hb1.out)
        clear hri
        go_wp2_with fail
        · exfalso; simp at hri2; exact hri2 (by assumption)
        exact ⟨⟨k + 1, _, Lo, by omega, by simp, rfl, HSN, HON, HB1⟩, by simp [intOf]; omega⟩
    · have hlt2 : ¬ (k : Int) < (len : Int) := by omega
      have hke : l.take k = l := List.take_of_length_le (by rw [hlen.out]; omega)
      obtain ⟨va, vc, hv, hF⟩ := ils_ofI HO.out
      have HF := hidn hF
      have HV := hidn hv
      have HKE := hidn hke
      subst hv
      clear hF hke
      go_wp2_with fail
      go_ret
      refine ⟨Lo, va, vc, rfl, HF.out, ⟨HS.out.1, fun x => ?_⟩, ?_, HB.out⟩
      · have := HS.out.2.1 x
        rw [HKE.out] at this
        exact this
      · have := HS.out.2.2
        omega

end Go.Proofs.YtiffbbcgailmnaaGreatDoor

namespace Go.Proofs.YtiffbbcgailmnaaGreatDoor
open Go.RowKit Go.Joins
set_option linter.unusedVariables false

set_option maxHeartbeats 1000000 in
set_option maxRecDepth 20000 in
theorem rxUnion_p (a b : Option Addr) (la ca lb cb N : Nat) (l1 l2 : List Int) (w : World) (h1 : Ils w a la l1) (h2 : Ils w b lb l2) (hm1 : la ≤ 40) (hm2 : lb ≤ 40) (hN : la + lb ≤ N) :
    Calls Tryz.prog 7 #[.slice a la ca, .slice b lb cb] w (ListP (fun x => x ∈ l1 ∨ x ∈ l2) N w) := by
  obtain ⟨W1, hW1⟩ : ∃ W, W = w.alloc (.cells #[] 3) := ⟨_, rfl⟩
  have b1 : Below w.heap.size w W1 := by rw [hW1]; exact (Below.refl _ w).alloc (Nat.le_refl _) _
  have q1 : W1.heap[w.heap.size]? = some (.cells #[] 3 (0, 0)) := by rw [hW1]; exact heap_alloc_new w _
  have o1 := ix_empty q1 (Nat.le_refl _)
  obtain ⟨n1, hn1⟩ : ∃ n, n = 0 + la := ⟨_, rfl⟩
  obtain ⟨va, vc, W2, r2, o2, g2⟩ := ixApp W1 w.heap.size _ 0 [] o1 b1.size a la ca l1 (h1.below b1) n1 hn1 (by omega)
  have k2 : Below w.heap.size w W2 := b1.grown g2 b1.size (fun b hb => (o1.lt b hb).1)
  obtain ⟨n2, hn2⟩ : ∃ n, n = n1 + lb := ⟨_, rfl⟩
  obtain ⟨ua, uc, W3, r3, o3, g3⟩ := ixApp W2 w.heap.size _ n1 _ o2 k2.size b lb cb l2 (h2.below k2) n2 hn2 (by omega)
  have k3 : Below w.heap.size w W3 := k2.grown g3 k2.size (fun b hb => (o2.lt b hb).1)
  have HR2 := hidn r2
  have HR3 := hidn r3
  have e3 : [] ++ ivs l1 ++ ivs l2 = ivs (l1 ++ l2) := by simp [ivs]
  rw [e3] at o3
  obtain ⟨xa, xc, hx, hI, _⟩ := ils_ofC o3 (by rw [List.length_append, h1.1, h2.1]; omega)
  cases hx
  have HC := hidn (ixSet_any ua none n2 uc 0 0 (l1 ++ l2) [] false W3 hI ⟨rfl, Nat.zero_le _, fun _ => rfl, fun x hx j c hj => by cases hj⟩ (by omega))
  have HK := hidn k3
  have HN2 : Hid (n2 ≤ N) := hidn (by omega)
  clear b1 q1 o1 o2 g2 k2 o3 g3 k3 r2 r3 hI hn1 hn2 h1 h2 hN
  subst hW1
  go_enter Tryz.func7, Tryz.ntmps7
  go_wp2_with (at_builtin; first | (refine wpList_app_runA rfl _ _ 22 22 rfl rfl _ _ _ rfl rfl HR2.out ?_; clear HR2) | (refine wpList_app_runA rfl _ _ 22 22 rfl rfl _ _ _ rfl rfl HR3.out ?_; clear HR3))
  refine HC.out.mono ?_
  rintro e w4 ⟨L, ra, rc, rfl, I9, ⟨R9, M9⟩, len9, b9⟩
  have HI9 := hidn I9
  have HR9 := hidn R9
  have HM9 := hidn M9
  have HL9 : Hid (L.length ≤ N) := hidn (Nat.le_trans len9 HN2.out)
  have HB9 : Hid (Below w.heap.size w w4) := hidn (HK.out.trans (b9.mono HK.out.size))
  clear HC I9 R9 M9 len9 b9
  go_wp2_with fail
  go_ret
  refine ⟨L, ra, rc, rfl, HI9.out, ⟨HR9.out, fun x => ?_⟩, HL9.out, HB9.out⟩
  rw [HM9.out x, List.mem_append]
  simp

set_option maxHeartbeats 1000000 in
set_option maxRecDepth 20000 in
theorem rxMeet_p (a b : Option Addr) (la ca lb cb N : Nat) (l1 l2 : List Int) (w : World) (h1 : Ils w a la l1) (h2 : Ils w b lb l2) (hm1 : la ≤ 40) (hm2 : lb ≤ 40) (hN : la + lb ≤ N) :
    Calls Tryz.prog 9 #[.slice a la ca, .slice b lb cb] w (ListP (fun x => x ∈ l1 ∧ x ∈ l2) N w) := by
  have HC := hidn (ixSet_any a b la ca lb cb l1 l2 true w h1 h2 (by omega))
  have HN2 : Hid (la ≤ N) := hidn (by omega)
  clear h1 h2 hN
  go_enter Tryz.func9, Tryz.ntmps9
  go_wp2_with fail
  refine HC.out.mono ?_
  rintro e w4 ⟨L, ra, rc, rfl, I9, ⟨R9, M9⟩, len9, b9⟩
  have HI9 := hidn I9
  have HR9 := hidn R9
  have HM9 := hidn M9
  have HL9 : Hid (L.length ≤ N) := hidn (Nat.le_trans len9 HN2.out)
  have HB9 := hidn b9
  clear HC I9 R9 M9 len9 b9
  go_wp2_with fail
  go_ret
  refine ⟨L, ra, rc, rfl, HI9.out, ⟨HR9.out, fun x => ?_⟩, HL9.out, HB9.out⟩
  rw [HM9.out x]
  simp

set_option maxHeartbeats 1000000 in
set_option maxRecDepth 20000 in
theorem rxMinus_p (a b : Option Addr) (la ca lb cb N : Nat) (l1 l2 : List Int) (w : World) (h1 : Ils w a la l1) (h2 : Ils w b lb l2) (hm1 : la ≤ 40) (hm2 : lb ≤ 40) (hN : la + lb ≤ N) :
    Calls Tryz.prog 11 #[.slice a la ca, .slice b lb cb] w (ListP (fun x => x ∈ l1 ∧ x ∉ l2) N w) := by
  have HC := hidn (ixSet_any a b la ca lb cb l1 l2 false w h1 h2 (by omega))
  have HN2 : Hid (la ≤ N) := hidn (by omega)
  clear h1 h2 hN
  go_enter Tryz.func11, Tryz.ntmps11
  go_wp2_with fail
  refine HC.out.mono ?_
  rintro e w4 ⟨L, ra, rc, rfl, I9, ⟨R9, M9⟩, len9, b9⟩
  have HI9 := hidn I9
  have HR9 := hidn R9
  have HM9 := hidn M9
  have HL9 : Hid (L.length ≤ N) := hidn (Nat.le_trans len9 HN2.out)
  have HB9 := hidn b9
  clear HC I9 R9 M9 len9 b9
  go_wp2_with fail
  go_ret
  refine ⟨L, ra, rc, rfl, HI9.out, ⟨HR9.out, fun x => ?_⟩, HL9.out, HB9.out⟩
  rw [HM9.out x]
  simp

end Go.Proofs.YtiffbbcgailmnaaGreatDoor
