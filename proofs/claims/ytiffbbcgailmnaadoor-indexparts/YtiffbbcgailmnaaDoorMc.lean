/- index: least, behind, sift, Union, Meet, Minus. -/
import Derived.Test.YtiffbbcgailmnaaDoorIxB
import Derived.Deep.RegionWith
namespace Go.Proofs.YtiffbbcgailmnaaDoor
open Go.RowKit Go.Joins
set_option linter.unusedVariables false

def leastS : List Int → List Int → Int
  | [], [] => 0
  | [], y :: _ => y
  | x :: _, [] => x
  | x :: _, y :: _ => min x y

theorem leastS_spec {A B : List Int} (hA : Rises A) (hB : Rises B) (h : A ≠ [] ∨ B ≠ []) : (leastS A B ∈ A ∨ leastS A B ∈ B) ∧ (∀ y ∈ A, leastS A B ≤ y) ∧ ∀ y ∈ B, leastS A B ≤ y := by
  have low : ∀ {x : Int} {t : List Int}, Rises (x :: t) → ∀ y ∈ x :: t, x ≤ y := by
    intro x t hr y hy
    rcases List.mem_cons.1 hy with e | e
    · omega
    · have := (List.pairwise_cons.1 hr).1 y e; omega
  match A, B with
  | [], [] => rcases h with h | h <;> exact absurd rfl h
  | [], y :: t => exact ⟨.inr (by simp [leastS]), (fun z hz => by cases hz), low hB⟩
  | x :: t, [] => exact ⟨.inl (by simp [leastS]), low hA, fun z hz => by cases hz⟩
  | x :: t, y :: u =>
    refine ⟨?_, fun z hz => ?_, fun z hz => ?_⟩
    · show min x y ∈ _ ∨ min x y ∈ _
      rcases Int.le_total x y with e | e
      · rw [Int.min_eq_left e]; exact .inl (by simp)
      · rw [Int.min_eq_right e]; exact .inr (by simp)
    · have := low hA z hz
      show min x y ≤ z
      omega
    · have := low hB z hz
      show min x y ≤ z
      omega

theorem Ils.nilI {w : World} {a : Option Addr} {n : Nat} (h : Ils w a n []) : n = 0 := h.1.symm
theorem Ils.headI {w : World} {a : Option Addr} {n : Nat} {x : Int} {t : List Int} (h : Ils w a n (x :: t)) : 0 < n ∧ ∃ b off, a = some ⟨b, off, none⟩ ∧ w.cell? ⟨b, off, none⟩ = some (.int .i64 x) := by
  have h1 := h.1
  refine ⟨by simp at h1; omega, ?_⟩
  obtain ⟨b, off, e, c⟩ := h.at (j := 0) (c := x) rfl
  exact ⟨b, off, e, by simpa using c⟩

theorem ixSlice1 {w : World} {a : Option Addr} {n c : Nat} {x : Int} {t : List Int} (h : Ils w a n (x :: t)) (hc : n ≤ c) :
    ∃ a', (∀ wx, (Instr.slice 22 (.slice a n c) (some (.int .i64 1)) none none).run Tryd.prog wx = .ok (.slice a' (n - 1) (c - 1)) wx) ∧ Ils w a' (n - 1) t := by
  obtain ⟨h0, b, off, rfl, _⟩ := h.headI
  refine ⟨if c = 1 then some ⟨b, off, none⟩ else (some (⟨b, off, none⟩ : Addr)).map (·.add (1 * 1)), fun wx => ?_, ?_⟩
  · rw [show (Value.int .i64 1) = (Value.int .i64 ((1 : Nat) : Int)) from rfl, run_slice_l (P := Tryd.prog) wx 22 (some ⟨b, off, none⟩) n c (by kernel_rfl) .i64 ((1 : Nat) : Int) (by omega) (by omega)]
    have hsz : (sizeOf (Tryd.prog.elem 22)).run Tryd.prog wx = .ok 1 wx := by kernel_rfl
    rw [hsz]
    simp [Result.andThen, sliced]
  · obtain ⟨h1, h2, h3, h4⟩ := h
    refine ⟨by simp at h1; omega, by omega, fun e => ?_, fun y hy j z hj => ?_⟩
    · split at e <;> simp at e
    · by_cases hc1 : c = 1
      · have hjt : j < t.length := (List.getElem?_eq_some_iff.1 hj).1
        simp at h1
        omega
      · rw [if_neg hc1] at hy
        simp only [Option.map_some, Option.some.injEq] at hy
        subst hy
        have h9 := h4 _ rfl (j + 1) z (by simpa using hj)
        have e : ((⟨b, off, none⟩ : Addr).add (1 * 1)).add j = (⟨b, off, none⟩ : Addr).add (j + 1) := by
          rw [Nat.mul_one, add_none, add_none, add_none]
          congr 1
          omega
        rw [e]
        exact h9

theorem behind_if (n : Int) (l : List Int) : (if headIs n l then l.tail else l) = behindS n l := by
  cases l with
  | nil => rfl
  | cons x t =>
    by_cases h : x = n
    · simp [headIs, behindS, h]
    · simp [headIs, behindS, h]

theorem sift_meas (ia ib : Bool) (n m n6 n7 : Nat) (h6 : n6 = if ia then n - 1 else n) (h7 : n7 = if ib then m - 1 else m) (h8 : ia = true ∨ ib = true) (hn : ia = true → 0 < n) (hm : ib = true → 0 < m) : n6 + n7 < n + m := by
  cases ia <;> cases ib <;> simp at h6 h7 h8 hn hm <;> omega

def slN9 : Value → Nat
  | .slice _ m _ => m
  | _ => 0

set_option maxHeartbeats 1000000 in
theorem behind_any (a : Option Addr) (n c : Nat) (l : List Int) (met : Bool) (w0 w : World) (h : Ils w0 a n l) (hb : Below w0.heap.size w0 w) (hc : n ≤ c) (hm : met = true → l ≠ []) :
    Calls Tryd.prog 17 #[.slice a n c, .bool met] w fun e w' => ∃ a' m c', e = .returned (.slice a' m c') ∧ Ils w0 a' m (if met then l.tail else l) ∧ m ≤ c' ∧ m = (if met then n - 1 else n) ∧ w' = w := by
  cases met with
  | false =>
    have HI := hidn h
    clear h
    go_enter Tryd.func17, Tryd.ntmps17
    go_wp2_with fail
    go_ret
    exact ⟨_, _, _, rfl, HI.out, hc, rfl, rfl⟩
  | true =>
    cases l with
    | nil => exact absurd rfl (hm rfl)
    | cons x t =>
      obtain ⟨a', hsl, hI⟩ := ixSlice1 h hc
      have HI := hidn hI
      have HC : Hid (n - 1 ≤ c - 1) := hidn (by omega)
      clear h hI hm
      go_enter Tryd.func17, Tryd.ntmps17
      go_wp2_with fail
      go_ret
      exact ⟨_, _, _, rfl, HI.out, HC.out, rfl, rfl⟩

set_option maxHeartbeats 1000000 in
theorem least_any (a b : Option Addr) (n c m d : Nat) (A B : List Int) (w : World) (hA : Ils w a n A) (hB : Ils w b m B) (h : A ≠ [] ∨ B ≠ []) :
    Calls Tryd.prog 16 #[.slice a n c, .slice b m d] w fun e w' => e = .returned (.int .i64 (leastS A B)) ∧ Below w.heap.size w w' := by
  match A, B with
  | [], [] => rcases h with h | h <;> exact absurd rfl h
  | [], y :: t =>
    have hn := hA.nilI
    subst hn
    obtain ⟨hm, g, off, rfl, c0⟩ := hB.headI
    have hmi : (0 : Int) < (m : Int) := by omega
    clear hA hB h
    go_enter Tryd.func16, Tryd.ntmps16
    go_wp2_with fail
    go_ret
    exact ⟨rfl, Below.refl _ _⟩
  | x :: t, [] =>
    have hm := hB.nilI
    subst hm
    obtain ⟨hn, g, off, rfl, c0⟩ := hA.headI
    have hni : (0 : Int) < (n : Int) := by omega
    have hne : ((n : Int) == 0) = false := by simp; omega
    clear hA hB h
    go_enter Tryd.func16, Tryd.ntmps16
    go_wp2_with fail
    go_ret
    exact ⟨rfl, Below.refl _ _⟩
  | x :: t, y :: u =>
    obtain ⟨hn, g, off, rfl, c0⟩ := hA.headI
    obtain ⟨hm, g2, off2, rfl, c1⟩ := hB.headI
    have hni : (0 : Int) < (n : Int) := by omega
    have hmi : (0 : Int) < (m : Int) := by omega
    have hne : ((n : Int) == 0) = false := by simp; omega
    have hme : ((m : Int) == 0) = false := by simp; omega
    have hd : Below w.heap.size w w.drew := (Below.refl _ w).drew
    rw [show leastS (x :: t) (y :: u) = min x y from rfl]
    obtain ⟨z, hz⟩ : ∃ z, min x y = z := ⟨_, rfl⟩
    have hz2 : (if y < x then y else x) = z := by rw [← hz]; split <;> omega
    rw [hz]
    clear hA hB h
    go_enter Tryd.func16, Tryd.ntmps16
    go_wp2_with fail
    go_region
    go_wp2_with fail
    go_ret
    exact ⟨rfl, hd⟩

def inEitherS : Bool → Bool → Bool := fun x y => x || y
theorem inEither_any (x y : Bool) (w : World) : Calls Tryd.prog 12 #[.bool x, .bool y] w fun e w' => e = .returned (.bool (inEitherS x y)) ∧ w' = w := by
  cases x <;> cases y <;> (
    go_enter Tryd.func12, Tryd.ntmps12
    go_wp2_with fail
    go_ret
    exact ⟨rfl, rfl⟩)

def inBothS : Bool → Bool → Bool := fun x y => x && y
theorem inBoth_any (x y : Bool) (w : World) : Calls Tryd.prog 11 #[.bool x, .bool y] w fun e w' => e = .returned (.bool (inBothS x y)) ∧ w' = w := by
  cases x <;> cases y <;> (
    go_enter Tryd.func11, Tryd.ntmps11
    go_wp2_with fail
    go_ret
    exact ⟨rfl, rfl⟩)

def inFirstAloneS : Bool → Bool → Bool := fun x y => x && !y
theorem inFirstAlone_any (x y : Bool) (w : World) : Calls Tryd.prog 10 #[.bool x, .bool y] w fun e w' => e = .returned (.bool (inFirstAloneS x y)) ∧ w' = w := by
  cases x <;> cases y <;> (
    go_enter Tryd.func10, Tryd.ntmps10
    go_wp2_with fail
    go_ret
    exact ⟨rfl, rfl⟩)

theorem SiftI.riseA {f : Bool → Bool → Bool} {A B A' B' K : List Int} (h : SiftI f A B A' B' K) (hA : Rises A) : Rises A' := by
  obtain ⟨P, Q, hP, _⟩ := h
  exact rises_suffix hA hP
theorem SiftI.riseB {f : Bool → Bool → Bool} {A B A' B' K : List Int} (h : SiftI f A B A' B' K) (hB : Rises B) : Rises B' := by
  obtain ⟨P, Q, _, hQ, _⟩ := h
  exact rises_suffix hB hQ
theorem rises_sub_len : ∀ {l m : List Int}, Rises l → (∀ x ∈ l, x ∈ m) → l.length ≤ m.length
  | [], m, _, _ => Nat.zero_le _
  | x :: t, m, hl, h => by
    have h1 := List.pairwise_cons.1 hl
    have h2 := rises_sub_len (l := t) (m := m.erase x) h1.2 (fun y hy => by
      have hne : y ≠ x := by have := h1.1 y hy; omega
      exact (List.mem_erase_of_ne hne).2 (h y (by simp [hy])))
    have h3 := List.length_erase_of_mem (h x (by simp))
    have h4 : 0 < m.length := List.length_pos_of_mem (h x (by simp))
    simp only [List.length_cons]
    omega
theorem SiftI.len {f : Bool → Bool → Bool} {A B A' B' K : List Int} (h : SiftI f A B A' B' K) (hA : Rises A) (hB : Rises B) : K.length ≤ A.length + B.length := by
  obtain ⟨P, Q, hP, hQ, kr, _, mm⟩ := h
  have := rises_sub_len (m := A ++ B) kr (fun x hx => by
    rcases ((mm x).1 hx).1 with e | e
    · rw [hP]; simp [e]
    · rw [hQ]; simp [e])
  simpa using this

def SiftP (f : Bool → Bool → Bool) (a b : List Int) (w : World) (e : Ending) (w' : World) : Prop :=
  ∃ L v, e = .returned v ∧ w'.ownsRow w.heap.size 3 1 v L.length (ivs L) ∧ (Rises L ∧ ∀ x, x ∈ L ↔ (x ∈ a ∨ x ∈ b) ∧ f (decide (x ∈ a)) (decide (x ∈ b)) = true) ∧ L.length ≤ a.length + b.length ∧ Below w.heap.size w w'

end Go.Proofs.YtiffbbcgailmnaaDoor

namespace Go.Proofs.YtiffbbcgailmnaaDoor
open Go.RowKit Go.Joins
set_option linter.unusedVariables false

set_option maxHeartbeats 4000000 in
set_option maxRecDepth 100000 in
theorem sift_inEither (a b : Option Addr) (la ca0 lb cb0 : Nat) (l1 l2 : List Int) (w : World) (h1 : Ils w a la l1) (h2 : Ils w b lb l2) (hm1 : la ≤ 1000) (hm2 : lb ≤ 1000) :
    Calls Tryd.prog 9 #[.slice a la ca0, .slice b lb cb0, .func (.func 12) #[] #[]] w (SiftP inEitherS l1 l2 w) := by
  obtain ⟨i1, z1, hi1, hy0, hy1, hy2, hyc⟩ := iInfo
  have H1 := hidn (ixRising_any a la ca0 l1 w h1 hm1)
  have H2 := hidn (fun w2 (b2 : Below w.heap.size w w2) => ixRising_any b lb cb0 l2 w2 (h2.below b2) hm2)
  obtain ⟨A, hA⟩ : ∃ A, A = riseS l1 := ⟨_, rfl⟩
  obtain ⟨B, hB⟩ : ∃ B, B = riseS l2 := ⟨_, rfl⟩
  have HRA : Hid (Rises A) := hidn (by rw [hA]; exact riseS_rises l1)
  have HRB : Hid (Rises B) := hidn (by rw [hB]; exact riseS_rises l2)
  have HLA : Hid (A.length ≤ 1000) := hidn (by rw [hA]; have := riseS_len l1; have := h1.1; omega)
  have HLB : Hid (B.length ≤ 1000) := hidn (by rw [hB]; have := riseS_len l2; have := h2.1; omega)
  have HLL : Hid (A.length ≤ l1.length ∧ B.length ≤ l2.length) := hidn (by rw [hA, hB]; exact ⟨riseS_len l1, riseS_len l2⟩)
  have HMA : Hid (∀ x, x ∈ A ↔ x ∈ l1) := hidn (by rw [hA]; exact riseS_mem l1)
  have HMB : Hid (∀ x, x ∈ B ↔ x ∈ l2) := hidn (by rw [hB]; exact riseS_mem l2)
  rw [← hA] at H1
  rw [← hB] at H2
  clear h1 h2 hA hB
  go_enter Tryd.func9, Tryd.ntmps9
  go_wp2_with fail
  refine H1.out.mono ?_
  rintro e w1 ⟨aa, ca, rfl, hIA, hca, b1⟩
  have HIA1 := hidn hIA
  have HB1 := hidn b1
  clear hIA b1 H1
  go_wp2_with fail
  refine (H2.out w1 HB1.out).mono ?_
  rintro e w2 ⟨ba, cb, rfl, hIB, hcb, b2⟩
  have HIB0 := hidn hIB
  have HIA0 := hidn (HIA1.out.below b2)
  have HB2 := hidn (HB1.out.trans (b2.mono HB1.out.size))
  have HCA0 := hidn hca
  have HCB0 := hidn hcb
  clear hIB b2 H2 hca hcb HIA1
  go_wp2_with fail
  go_loopw [0, 1, 7] (fun av bv kv wr => ∃ (A' B' K : List Int) (aa ba : Option Addr) (n m ca cb : Nat), av = .slice aa n ca ∧ bv = .slice ba m cb ∧ Hid (SiftI inEitherS A B A' B' K) ∧ Hid (Ils w2 aa n A') ∧ Hid (Ils w2 ba m B') ∧ Hid (n ≤ ca) ∧ Hid (m ≤ cb) ∧ Hid (wr.ownsRow w2.heap.size 3 1 kv K.length (ivs K)) ∧ Hid (Below w2.heap.size w2 wr)) (fun av bv _ _ => slN9 av + slN9 bv)
  case atStart => exact ⟨A, B, [], aa, ba, _, _, ca, cb, rfl, rfl, hidn (SiftI.start _ A B), HIA0, HIB0, HCA0, HCB0, hidn (World.ownsRow_nil _ _ _ _), hidn (Below.refl _ _)⟩
  case round =>
    obtain ⟨A', B', K, aa, ba, n, m, ca, cb, rfl, rfl, HS, HIA, HIB, HCA, HCB, HO, HB⟩ := hrel
    cases hAe : A' with
    | nil =>
      cases hBe : B' with
      | nil =>
        have hn0 : n = 0 := (show Ils w2 aa n [] from by rw [← hAe]; exact HIA.out).nilI
        have hm0 : m = 0 := (show Ils w2 ba m [] from by rw [← hBe]; exact HIB.out).nilI
        subst hn0
        subst hm0
        have hS9 := HS.out
        rw [hAe, hBe] at hS9
        have hD := hS9.done
        have hLn := HS.out.len HRA.out HRB.out
        have HD := hidn hD
        have HLN := hidn hLn
        clear hD hLn hS9 hAe hBe
        go_wp2_with fail
        go_ret
        refine ⟨K, _, rfl, own_lower HO.out HB2.out.size, ⟨HD.out.1, fun x => ?_⟩, ?_, HB2.out.trans (HB.out.mono HB2.out.size)⟩
        · rw [HD.out.2 x]
          have e1 : decide (x ∈ A) = decide (x ∈ l1) := decide_eq_decide.2 (HMA.out x)
          have e2 : decide (x ∈ B) = decide (x ∈ l2) := decide_eq_decide.2 (HMB.out x)
          rw [e1, e2, HMA.out x, HMB.out x]
        · have := HLN.out
          have := HLL.out
          omega
      | cons xb tb =>
        have HLE := hidn (least_any aa ba n ca m cb A' B' wr (HIA.out.below HB.out) (HIB.out.below HB.out) (.inr (by rw [hBe]; simp)))
        obtain ⟨hin, hla, hlb⟩ := leastS_spec (HS.out.riseA HRA.out) (HS.out.riseB HRB.out) ((.inr (by rw [hBe]; simp)) : A' ≠ [] ∨ B' ≠ [])
        have HST := hidn (HS.out.step HRA.out HRB.out _ hin hla hlb)
        obtain ⟨N, hN⟩ : ∃ N, N = leastS A' B' := ⟨_, rfl⟩
        rw [← hN] at HLE HST hin hla hlb
        obtain ⟨ia, hia⟩ : ∃ ia, headIs N A' = ia := ⟨_, rfl⟩
        obtain ⟨ib, hib⟩ : ∃ ib, headIs N B' = ib := ⟨_, rfl⟩
        have HBA := hidn (fun w9 (b9 : Below w2.heap.size w2 w9) => behind_any aa n ca A' ia w2 w9 HIA.out b9 HCA.out (fun e => by rw [hAe] at hia; rw [← hia] at e; cases e))
        have HBB := hidn (fun w9 (b9 : Below w2.heap.size w2 w9) => behind_any ba m cb B' ib w2 w9 HIB.out b9 HCB.out (fun e => by rw [hBe]; simp))
        rw [show (if ia then A'.tail else A') = behindS N A' from by rw [← hia]; exact behind_if N A'] at HBA
        rw [show (if ib then B'.tail else B') = behindS N B' from by rw [← hib]; exact behind_if N B'] at HBB
        rw [hia, hib] at HST
        have hn0 : n = 0 := (show Ils w2 aa n [] from by rw [← hAe]; exact HIA.out).nilI
        subst hn0
        have hia2 : ia = false := by rw [← hia, hAe]; rfl
        subst hia2
        obtain ⟨hm0, gb, ob, rfl, cB⟩ := (show Ils w2 ba m (xb :: tb) from by rw [← hBe]; exact HIB.out).headI
        have cB2 := (HB.out.cell (block_lt_of_cell cB)).trans cB
        have hmi : (0 : Int) < (m : Int) := by omega
        have hxb : (xb == N) = ib := by rw [← hib, hBe]; rfl
        obtain ⟨r, hr⟩ : ∃ r, inEitherS false ib = r := ⟨_, rfl⟩
        have HKE := hidn (inEither_any false ib)
        rw [hr] at HST HKE
        have HLT : Hid (false = true ∨ ib = true) := hidn (by
          rcases hin with e | e
          · left; rw [hAe] at e; cases e
          · right; rw [← hib, head_mem (HS.out.riseB HRB.out) hlb]; simpa using e)
        obtain ⟨va, vc, e9⟩ : ∃ va vc, u7 = Value.slice va K.length vc := by
          rcases HO.out.2 with ⟨h1, h2⟩ | ⟨g, cp, cur, h1, _⟩
          · exact ⟨none, 0, by rw [h1, h2]⟩
          · exact ⟨_, _, h1⟩
        have HKL : Hid (K.length ≤ 100000) := hidn (by have := (HS.out.len HRA.out HRB.out); have := HLA.out; have := HLB.out; omega)
        clear hin hla hlb hN hia hib hr cB hAe hBe
        go_wp2_with fail
        refine HLE.out.mono ?_
        clear HLE
        rintro e w4 ⟨rfl, b4⟩
        have B4 := HB.out.trans (b4.mono HB.out.size)
        have O4 := own_skip HO.out b4
        have cB4 := (b4.cell (block_lt_of_cell cB2)).trans cB2
        clear cB2
        have HB4 := hidn B4
        have HO4 := hidn O4
        clear B4 O4 b4 HO
        go_wp2_with fail
        refine (HKE.out w4).mono ?_
        rintro e w5 ⟨rfl, rfl⟩
        cases r with
        | true =>
          obtain ⟨wB, hwB⟩ : ∃ wB, wB = w5.alloc (.cells #[.int .i64 N] 3) := ⟨_, rfl⟩
          have bB : Below w5.heap.size w5 wB := by rw [hwB]; exact (Below.refl _ w5).alloc (Nat.le_refl _) _
          have qB : wB.heap[w5.heap.size]? = some (.cells #[.int .i64 N] 3 (0, 0)) := by rw [hwB]; exact heap_alloc_new w5 _
          have BB := HB4.out.trans (bB.mono HB4.out.size)
          have O2 := own_skip HO4.out bB
          obtain ⟨v3, w3, hrun, hown3, hgr3⟩ := appAny wB w2.heap.size 22 22 3 i1 z1 1 8 Tryd.underlying22 hi1 hy0 hy1 hy2 hyc (by decide) u7 K.length (ivs K) O2 BB.size (some ⟨w5.heap.size, 0, none⟩) 1 1 [.int .i64 N] rfl (fun e => by cases e) (fun x hx j u hu => by
            cases hx
            rw [add_none, Nat.zero_add, cell_of_row _ _ _ _ _ _ qB]
            simpa using hu) (fun u hu => by
            simp at hu
            rw [hu]
            rfl) (by have := HKL.out; unfold maxLen; omega) (by have := HKL.out; omega)
          have HB3 := hidn (BB.grown hgr3 BB.size (fun k hk => (O2.lt k hk).1))
          have HO3 : Hid (w3.ownsRow w2.heap.size 3 1 v3 (K ++ [N]).length (ivs (K ++ [N]))) := hidn (by
            rw [ivs_append, List.length_append]
            exact hown3)
          have HRUN := hidn hrun
          have HWB := hidn hwB
          subst e9
          clear hrun hown3 hgr3 O2 bB qB hwB BB HO4
          go_wp2_with (at_builtin; rw [← HWB.out]; refine wpList_app_runA rfl _ _ 22 22 rfl rfl _ _ _ rfl rfl HRUN.out ?_; clear HRUN)
          refine (HBA.out w3 HB3.out).mono ?_
          rintro e w6 ⟨a6, n6, c6, rfl, hI6, hc6, hl6, rfl⟩
          have HI6 := hidn hI6
          have HL6 := hidn hl6
          clear hI6 hl6
          go_wp2_with fail
          refine (HBB.out w6 HB3.out).mono ?_
          rintro e w7 ⟨a7, n7, c7, rfl, hI7, hc7, hl7, rfl⟩
          have HI7 := hidn hI7
          have HL7 := hidn hl7
          clear hI7 hl7
          go_wp2_with fail
          refine ⟨⟨_, _, _, a6, a7, n6, n7, c6, c7, rfl, rfl, HST, HI6, HI7, hidn hc6, hidn hc7, HO3, HB3⟩, ?_⟩
          have h6 := HL6.out
          have h7 := HL7.out
          have h8 := HLT.out
          show n6 + n7 < 0 + m
          exact sift_meas _ _ _ _ _ _ h6 h7 h8 (fun e => by cases e) (fun _ => hm0)
        | false =>
          have HO9 := HO4
          subst e9
          go_wp2_with fail
          refine (HBA.out w5 HB4.out).mono ?_
          rintro e w6 ⟨a6, n6, c6, rfl, hI6, hc6, hl6, rfl⟩
          have HI6 := hidn hI6
          have HL6 := hidn hl6
          clear hI6 hl6
          go_wp2_with fail
          refine (HBB.out w6 HB4.out).mono ?_
          rintro e w7 ⟨a7, n7, c7, rfl, hI7, hc7, hl7, rfl⟩
          have HI7 := hidn hI7
          have HL7 := hidn hl7
          clear hI7 hl7
          go_wp2_with fail
          refine ⟨⟨_, _, _, a6, a7, n6, n7, c6, c7, rfl, rfl, HST, HI6, HI7, hidn hc6, hidn hc7, HO9, HB4⟩, ?_⟩
          have h6 := HL6.out
          have h7 := HL7.out
          have h8 := HLT.out
          show n6 + n7 < 0 + m
          exact sift_meas _ _ _ _ _ _ h6 h7 h8 (fun e => by cases e) (fun _ => hm0)
    | cons xa ta =>
      cases hBe : B' with
      | nil =>
        have HLE := hidn (least_any aa ba n ca m cb A' B' wr (HIA.out.below HB.out) (HIB.out.below HB.out) (.inl (by rw [hAe]; simp)))
        obtain ⟨hin, hla, hlb⟩ := leastS_spec (HS.out.riseA HRA.out) (HS.out.riseB HRB.out) ((.inl (by rw [hAe]; simp)) : A' ≠ [] ∨ B' ≠ [])
        have HST := hidn (HS.out.step HRA.out HRB.out _ hin hla hlb)
        obtain ⟨N, hN⟩ : ∃ N, N = leastS A' B' := ⟨_, rfl⟩
        rw [← hN] at HLE HST hin hla hlb
        obtain ⟨ia, hia⟩ : ∃ ia, headIs N A' = ia := ⟨_, rfl⟩
        obtain ⟨ib, hib⟩ : ∃ ib, headIs N B' = ib := ⟨_, rfl⟩
        have HBA := hidn (fun w9 (b9 : Below w2.heap.size w2 w9) => behind_any aa n ca A' ia w2 w9 HIA.out b9 HCA.out (fun e => by rw [hAe]; simp))
        have HBB := hidn (fun w9 (b9 : Below w2.heap.size w2 w9) => behind_any ba m cb B' ib w2 w9 HIB.out b9 HCB.out (fun e => by rw [hBe] at hib; rw [← hib] at e; cases e))
        rw [show (if ia then A'.tail else A') = behindS N A' from by rw [← hia]; exact behind_if N A'] at HBA
        rw [show (if ib then B'.tail else B') = behindS N B' from by rw [← hib]; exact behind_if N B'] at HBB
        rw [hia, hib] at HST
        obtain ⟨hn0, ga, oa, rfl, cA⟩ := (show Ils w2 aa n (xa :: ta) from by rw [← hAe]; exact HIA.out).headI
        have cA2 := (HB.out.cell (block_lt_of_cell cA)).trans cA
        have hni : (0 : Int) < (n : Int) := by omega
        have hxa : (xa == N) = ia := by rw [← hia, hAe]; rfl
        have hm0 : m = 0 := (show Ils w2 ba m [] from by rw [← hBe]; exact HIB.out).nilI
        subst hm0
        have hib2 : ib = false := by rw [← hib, hBe]; rfl
        subst hib2
        obtain ⟨r, hr⟩ : ∃ r, inEitherS ia false = r := ⟨_, rfl⟩
        have HKE := hidn (inEither_any ia false)
        rw [hr] at HST HKE
        have HLT : Hid (ia = true ∨ false = true) := hidn (by
          rcases hin with e | e
          · left; rw [← hia, head_mem (HS.out.riseA HRA.out) hla]; simpa using e
          · right; rw [hBe] at e; cases e)
        obtain ⟨va, vc, e9⟩ : ∃ va vc, u7 = Value.slice va K.length vc := by
          rcases HO.out.2 with ⟨h1, h2⟩ | ⟨g, cp, cur, h1, _⟩
          · exact ⟨none, 0, by rw [h1, h2]⟩
          · exact ⟨_, _, h1⟩
        have HKL : Hid (K.length ≤ 100000) := hidn (by have := (HS.out.len HRA.out HRB.out); have := HLA.out; have := HLB.out; omega)
        clear hin hla hlb hN hia hib hr cA hAe hBe
        go_wp2_with fail
        refine HLE.out.mono ?_
        clear HLE
        rintro e w4 ⟨rfl, b4⟩
        have B4 := HB.out.trans (b4.mono HB.out.size)
        have O4 := own_skip HO.out b4
        have cA4 := (b4.cell (block_lt_of_cell cA2)).trans cA2
        clear cA2
        have HB4 := hidn B4
        have HO4 := hidn O4
        clear B4 O4 b4 HO
        go_wp2_with fail
        refine (HKE.out w4).mono ?_
        rintro e w5 ⟨rfl, rfl⟩
        cases r with
        | true =>
          obtain ⟨wB, hwB⟩ : ∃ wB, wB = w5.alloc (.cells #[.int .i64 N] 3) := ⟨_, rfl⟩
          have bB : Below w5.heap.size w5 wB := by rw [hwB]; exact (Below.refl _ w5).alloc (Nat.le_refl _) _
          have qB : wB.heap[w5.heap.size]? = some (.cells #[.int .i64 N] 3 (0, 0)) := by rw [hwB]; exact heap_alloc_new w5 _
          have BB := HB4.out.trans (bB.mono HB4.out.size)
          have O2 := own_skip HO4.out bB
          obtain ⟨v3, w3, hrun, hown3, hgr3⟩ := appAny wB w2.heap.size 22 22 3 i1 z1 1 8 Tryd.underlying22 hi1 hy0 hy1 hy2 hyc (by decide) u7 K.length (ivs K) O2 BB.size (some ⟨w5.heap.size, 0, none⟩) 1 1 [.int .i64 N] rfl (fun e => by cases e) (fun x hx j u hu => by
            cases hx
            rw [add_none, Nat.zero_add, cell_of_row _ _ _ _ _ _ qB]
            simpa using hu) (fun u hu => by
            simp at hu
            rw [hu]
            rfl) (by have := HKL.out; unfold maxLen; omega) (by have := HKL.out; omega)
          have HB3 := hidn (BB.grown hgr3 BB.size (fun k hk => (O2.lt k hk).1))
          have HO3 : Hid (w3.ownsRow w2.heap.size 3 1 v3 (K ++ [N]).length (ivs (K ++ [N]))) := hidn (by
            rw [ivs_append, List.length_append]
            exact hown3)
          have HRUN := hidn hrun
          have HWB := hidn hwB
          subst e9
          clear hrun hown3 hgr3 O2 bB qB hwB BB HO4
          go_wp2_with (at_builtin; rw [← HWB.out]; refine wpList_app_runA rfl _ _ 22 22 rfl rfl _ _ _ rfl rfl HRUN.out ?_; clear HRUN)
          refine (HBA.out w3 HB3.out).mono ?_
          rintro e w6 ⟨a6, n6, c6, rfl, hI6, hc6, hl6, rfl⟩
          have HI6 := hidn hI6
          have HL6 := hidn hl6
          clear hI6 hl6
          go_wp2_with fail
          refine (HBB.out w6 HB3.out).mono ?_
          rintro e w7 ⟨a7, n7, c7, rfl, hI7, hc7, hl7, rfl⟩
          have HI7 := hidn hI7
          have HL7 := hidn hl7
          clear hI7 hl7
          go_wp2_with fail
          refine ⟨⟨_, _, _, a6, a7, n6, n7, c6, c7, rfl, rfl, HST, HI6, HI7, hidn hc6, hidn hc7, HO3, HB3⟩, ?_⟩
          have h6 := HL6.out
          have h7 := HL7.out
          have h8 := HLT.out
          show n6 + n7 < n + 0
          exact sift_meas _ _ _ _ _ _ h6 h7 h8 (fun _ => hn0) (fun e => by cases e)
        | false =>
          have HO9 := HO4
          subst e9
          go_wp2_with fail
          refine (HBA.out w5 HB4.out).mono ?_
          rintro e w6 ⟨a6, n6, c6, rfl, hI6, hc6, hl6, rfl⟩
          have HI6 := hidn hI6
          have HL6 := hidn hl6
          clear hI6 hl6
          go_wp2_with fail
          refine (HBB.out w6 HB4.out).mono ?_
          rintro e w7 ⟨a7, n7, c7, rfl, hI7, hc7, hl7, rfl⟩
          have HI7 := hidn hI7
          have HL7 := hidn hl7
          clear hI7 hl7
          go_wp2_with fail
          refine ⟨⟨_, _, _, a6, a7, n6, n7, c6, c7, rfl, rfl, HST, HI6, HI7, hidn hc6, hidn hc7, HO9, HB4⟩, ?_⟩
          have h6 := HL6.out
          have h7 := HL7.out
          have h8 := HLT.out
          show n6 + n7 < n + 0
          exact sift_meas _ _ _ _ _ _ h6 h7 h8 (fun _ => hn0) (fun e => by cases e)
      | cons xb tb =>
        have HLE := hidn (least_any aa ba n ca m cb A' B' wr (HIA.out.below HB.out) (HIB.out.below HB.out) (.inl (by rw [hAe]; simp)))
        obtain ⟨hin, hla, hlb⟩ := leastS_spec (HS.out.riseA HRA.out) (HS.out.riseB HRB.out) ((.inl (by rw [hAe]; simp)) : A' ≠ [] ∨ B' ≠ [])
        have HST := hidn (HS.out.step HRA.out HRB.out _ hin hla hlb)
        obtain ⟨N, hN⟩ : ∃ N, N = leastS A' B' := ⟨_, rfl⟩
        rw [← hN] at HLE HST hin hla hlb
        obtain ⟨ia, hia⟩ : ∃ ia, headIs N A' = ia := ⟨_, rfl⟩
        obtain ⟨ib, hib⟩ : ∃ ib, headIs N B' = ib := ⟨_, rfl⟩
        have HBA := hidn (fun w9 (b9 : Below w2.heap.size w2 w9) => behind_any aa n ca A' ia w2 w9 HIA.out b9 HCA.out (fun e => by rw [hAe]; simp))
        have HBB := hidn (fun w9 (b9 : Below w2.heap.size w2 w9) => behind_any ba m cb B' ib w2 w9 HIB.out b9 HCB.out (fun e => by rw [hBe]; simp))
        rw [show (if ia then A'.tail else A') = behindS N A' from by rw [← hia]; exact behind_if N A'] at HBA
        rw [show (if ib then B'.tail else B') = behindS N B' from by rw [← hib]; exact behind_if N B'] at HBB
        rw [hia, hib] at HST
        obtain ⟨hn0, ga, oa, rfl, cA⟩ := (show Ils w2 aa n (xa :: ta) from by rw [← hAe]; exact HIA.out).headI
        have cA2 := (HB.out.cell (block_lt_of_cell cA)).trans cA
        have hni : (0 : Int) < (n : Int) := by omega
        have hxa : (xa == N) = ia := by rw [← hia, hAe]; rfl
        obtain ⟨hm0, gb, ob, rfl, cB⟩ := (show Ils w2 ba m (xb :: tb) from by rw [← hBe]; exact HIB.out).headI
        have cB2 := (HB.out.cell (block_lt_of_cell cB)).trans cB
        have hmi : (0 : Int) < (m : Int) := by omega
        have hxb : (xb == N) = ib := by rw [← hib, hBe]; rfl
        obtain ⟨r, hr⟩ : ∃ r, inEitherS ia ib = r := ⟨_, rfl⟩
        have HKE := hidn (inEither_any ia ib)
        rw [hr] at HST HKE
        have HLT : Hid (ia = true ∨ ib = true) := hidn (by
          rcases hin with e | e
          · left; rw [← hia, head_mem (HS.out.riseA HRA.out) hla]; simpa using e
          · right; rw [← hib, head_mem (HS.out.riseB HRB.out) hlb]; simpa using e)
        obtain ⟨va, vc, e9⟩ : ∃ va vc, u7 = Value.slice va K.length vc := by
          rcases HO.out.2 with ⟨h1, h2⟩ | ⟨g, cp, cur, h1, _⟩
          · exact ⟨none, 0, by rw [h1, h2]⟩
          · exact ⟨_, _, h1⟩
        have HKL : Hid (K.length ≤ 100000) := hidn (by have := (HS.out.len HRA.out HRB.out); have := HLA.out; have := HLB.out; omega)
        clear hin hla hlb hN hia hib hr cA cB hAe hBe
        go_wp2_with fail
        refine HLE.out.mono ?_
        clear HLE
        rintro e w4 ⟨rfl, b4⟩
        have B4 := HB.out.trans (b4.mono HB.out.size)
        have O4 := own_skip HO.out b4
        have cA4 := (b4.cell (block_lt_of_cell cA2)).trans cA2
        have cB4 := (b4.cell (block_lt_of_cell cB2)).trans cB2
        clear cA2
        clear cB2
        have HB4 := hidn B4
        have HO4 := hidn O4
        clear B4 O4 b4 HO
        go_wp2_with fail
        refine (HKE.out w4).mono ?_
        rintro e w5 ⟨rfl, rfl⟩
        cases r with
        | true =>
          obtain ⟨wB, hwB⟩ : ∃ wB, wB = w5.alloc (.cells #[.int .i64 N] 3) := ⟨_, rfl⟩
          have bB : Below w5.heap.size w5 wB := by rw [hwB]; exact (Below.refl _ w5).alloc (Nat.le_refl _) _
          have qB : wB.heap[w5.heap.size]? = some (.cells #[.int .i64 N] 3 (0, 0)) := by rw [hwB]; exact heap_alloc_new w5 _
          have BB := HB4.out.trans (bB.mono HB4.out.size)
          have O2 := own_skip HO4.out bB
          obtain ⟨v3, w3, hrun, hown3, hgr3⟩ := appAny wB w2.heap.size 22 22 3 i1 z1 1 8 Tryd.underlying22 hi1 hy0 hy1 hy2 hyc (by decide) u7 K.length (ivs K) O2 BB.size (some ⟨w5.heap.size, 0, none⟩) 1 1 [.int .i64 N] rfl (fun e => by cases e) (fun x hx j u hu => by
            cases hx
            rw [add_none, Nat.zero_add, cell_of_row _ _ _ _ _ _ qB]
            simpa using hu) (fun u hu => by
            simp at hu
            rw [hu]
            rfl) (by have := HKL.out; unfold maxLen; omega) (by have := HKL.out; omega)
          have HB3 := hidn (BB.grown hgr3 BB.size (fun k hk => (O2.lt k hk).1))
          have HO3 : Hid (w3.ownsRow w2.heap.size 3 1 v3 (K ++ [N]).length (ivs (K ++ [N]))) := hidn (by
            rw [ivs_append, List.length_append]
            exact hown3)
          have HRUN := hidn hrun
          have HWB := hidn hwB
          subst e9
          clear hrun hown3 hgr3 O2 bB qB hwB BB HO4
          go_wp2_with (at_builtin; rw [← HWB.out]; refine wpList_app_runA rfl _ _ 22 22 rfl rfl _ _ _ rfl rfl HRUN.out ?_; clear HRUN)
          refine (HBA.out w3 HB3.out).mono ?_
          rintro e w6 ⟨a6, n6, c6, rfl, hI6, hc6, hl6, rfl⟩
          have HI6 := hidn hI6
          have HL6 := hidn hl6
          clear hI6 hl6
          go_wp2_with fail
          refine (HBB.out w6 HB3.out).mono ?_
          rintro e w7 ⟨a7, n7, c7, rfl, hI7, hc7, hl7, rfl⟩
          have HI7 := hidn hI7
          have HL7 := hidn hl7
          clear hI7 hl7
          go_wp2_with fail
          refine ⟨⟨_, _, _, a6, a7, n6, n7, c6, c7, rfl, rfl, HST, HI6, HI7, hidn hc6, hidn hc7, HO3, HB3⟩, ?_⟩
          have h6 := HL6.out
          have h7 := HL7.out
          have h8 := HLT.out
          show n6 + n7 < n + m
          exact sift_meas _ _ _ _ _ _ h6 h7 h8 (fun _ => hn0) (fun _ => hm0)
        | false =>
          have HO9 := HO4
          subst e9
          go_wp2_with fail
          refine (HBA.out w5 HB4.out).mono ?_
          rintro e w6 ⟨a6, n6, c6, rfl, hI6, hc6, hl6, rfl⟩
          have HI6 := hidn hI6
          have HL6 := hidn hl6
          clear hI6 hl6
          go_wp2_with fail
          refine (HBB.out w6 HB4.out).mono ?_
          rintro e w7 ⟨a7, n7, c7, rfl, hI7, hc7, hl7, rfl⟩
          have HI7 := hidn hI7
          have HL7 := hidn hl7
          clear hI7 hl7
          go_wp2_with fail
          refine ⟨⟨_, _, _, a6, a7, n6, n7, c6, c7, rfl, rfl, HST, HI6, HI7, hidn hc6, hidn hc7, HO9, HB4⟩, ?_⟩
          have h6 := HL6.out
          have h7 := HL7.out
          have h8 := HLT.out
          show n6 + n7 < n + m
          exact sift_meas _ _ _ _ _ _ h6 h7 h8 (fun _ => hn0) (fun _ => hm0)

theorem ixUnion_any (a b : Option Addr) (la ca lb cb : Nat) (l1 l2 : List Int) (w : World) (h1 : Ils w a la l1) (h2 : Ils w b lb l2) (hm1 : la ≤ 1000) (hm2 : lb ≤ 1000) :
    Calls Tryd.prog 7 #[.slice a la ca, .slice b lb cb] w (SiftP inEitherS l1 l2 w) := by
  have H := hidn (sift_inEither a b la ca lb cb l1 l2 w h1 h2 hm1 hm2)
  clear h1 h2
  go_enter Tryd.func7, Tryd.ntmps7
  go_wp2_with fail
  refine H.out.mono ?_
  rintro e w1 ⟨L, v, rfl, ho, hL, hl, hb⟩
  have HO := hidn ho
  have HL := hidn hL
  have HN := hidn hl
  have HB := hidn hb
  clear ho hL hl hb
  go_wp2_with fail
  go_ret
  exact ⟨L, v, rfl, HO.out, HL.out, HN.out, HB.out⟩

end Go.Proofs.YtiffbbcgailmnaaDoor

namespace Go.Proofs.YtiffbbcgailmnaaDoor
open Go.RowKit Go.Joins
set_option linter.unusedVariables false

set_option maxHeartbeats 4000000 in
set_option maxRecDepth 100000 in
theorem sift_inBoth (a b : Option Addr) (la ca0 lb cb0 : Nat) (l1 l2 : List Int) (w : World) (h1 : Ils w a la l1) (h2 : Ils w b lb l2) (hm1 : la ≤ 1000) (hm2 : lb ≤ 1000) :
    Calls Tryd.prog 9 #[.slice a la ca0, .slice b lb cb0, .func (.func 11) #[] #[]] w (SiftP inBothS l1 l2 w) := by
  obtain ⟨i1, z1, hi1, hy0, hy1, hy2, hyc⟩ := iInfo
  have H1 := hidn (ixRising_any a la ca0 l1 w h1 hm1)
  have H2 := hidn (fun w2 (b2 : Below w.heap.size w w2) => ixRising_any b lb cb0 l2 w2 (h2.below b2) hm2)
  obtain ⟨A, hA⟩ : ∃ A, A = riseS l1 := ⟨_, rfl⟩
  obtain ⟨B, hB⟩ : ∃ B, B = riseS l2 := ⟨_, rfl⟩
  have HRA : Hid (Rises A) := hidn (by rw [hA]; exact riseS_rises l1)
  have HRB : Hid (Rises B) := hidn (by rw [hB]; exact riseS_rises l2)
  have HLA : Hid (A.length ≤ 1000) := hidn (by rw [hA]; have := riseS_len l1; have := h1.1; omega)
  have HLB : Hid (B.length ≤ 1000) := hidn (by rw [hB]; have := riseS_len l2; have := h2.1; omega)
  have HLL : Hid (A.length ≤ l1.length ∧ B.length ≤ l2.length) := hidn (by rw [hA, hB]; exact ⟨riseS_len l1, riseS_len l2⟩)
  have HMA : Hid (∀ x, x ∈ A ↔ x ∈ l1) := hidn (by rw [hA]; exact riseS_mem l1)
  have HMB : Hid (∀ x, x ∈ B ↔ x ∈ l2) := hidn (by rw [hB]; exact riseS_mem l2)
  rw [← hA] at H1
  rw [← hB] at H2
  clear h1 h2 hA hB
  go_enter Tryd.func9, Tryd.ntmps9
  go_wp2_with fail
  refine H1.out.mono ?_
  rintro e w1 ⟨aa, ca, rfl, hIA, hca, b1⟩
  have HIA1 := hidn hIA
  have HB1 := hidn b1
  clear hIA b1 H1
  go_wp2_with fail
  refine (H2.out w1 HB1.out).mono ?_
  rintro e w2 ⟨ba, cb, rfl, hIB, hcb, b2⟩
  have HIB0 := hidn hIB
  have HIA0 := hidn (HIA1.out.below b2)
  have HB2 := hidn (HB1.out.trans (b2.mono HB1.out.size))
  have HCA0 := hidn hca
  have HCB0 := hidn hcb
  clear hIB b2 H2 hca hcb HIA1
  go_wp2_with fail
  go_loopw [0, 1, 7] (fun av bv kv wr => ∃ (A' B' K : List Int) (aa ba : Option Addr) (n m ca cb : Nat), av = .slice aa n ca ∧ bv = .slice ba m cb ∧ Hid (SiftI inBothS A B A' B' K) ∧ Hid (Ils w2 aa n A') ∧ Hid (Ils w2 ba m B') ∧ Hid (n ≤ ca) ∧ Hid (m ≤ cb) ∧ Hid (wr.ownsRow w2.heap.size 3 1 kv K.length (ivs K)) ∧ Hid (Below w2.heap.size w2 wr)) (fun av bv _ _ => slN9 av + slN9 bv)
  case atStart => exact ⟨A, B, [], aa, ba, _, _, ca, cb, rfl, rfl, hidn (SiftI.start _ A B), HIA0, HIB0, HCA0, HCB0, hidn (World.ownsRow_nil _ _ _ _), hidn (Below.refl _ _)⟩
  case round =>
    obtain ⟨A', B', K, aa, ba, n, m, ca, cb, rfl, rfl, HS, HIA, HIB, HCA, HCB, HO, HB⟩ := hrel
    cases hAe : A' with
    | nil =>
      cases hBe : B' with
      | nil =>
        have hn0 : n = 0 := (show Ils w2 aa n [] from by rw [← hAe]; exact HIA.out).nilI
        have hm0 : m = 0 := (show Ils w2 ba m [] from by rw [← hBe]; exact HIB.out).nilI
        subst hn0
        subst hm0
        have hS9 := HS.out
        rw [hAe, hBe] at hS9
        have hD := hS9.done
        have hLn := HS.out.len HRA.out HRB.out
        have HD := hidn hD
        have HLN := hidn hLn
        clear hD hLn hS9 hAe hBe
        go_wp2_with fail
        go_ret
        refine ⟨K, _, rfl, own_lower HO.out HB2.out.size, ⟨HD.out.1, fun x => ?_⟩, ?_, HB2.out.trans (HB.out.mono HB2.out.size)⟩
        · rw [HD.out.2 x]
          have e1 : decide (x ∈ A) = decide (x ∈ l1) := decide_eq_decide.2 (HMA.out x)
          have e2 : decide (x ∈ B) = decide (x ∈ l2) := decide_eq_decide.2 (HMB.out x)
          rw [e1, e2, HMA.out x, HMB.out x]
        · have := HLN.out
          have := HLL.out
          omega
      | cons xb tb =>
        have HLE := hidn (least_any aa ba n ca m cb A' B' wr (HIA.out.below HB.out) (HIB.out.below HB.out) (.inr (by rw [hBe]; simp)))
        obtain ⟨hin, hla, hlb⟩ := leastS_spec (HS.out.riseA HRA.out) (HS.out.riseB HRB.out) ((.inr (by rw [hBe]; simp)) : A' ≠ [] ∨ B' ≠ [])
        have HST := hidn (HS.out.step HRA.out HRB.out _ hin hla hlb)
        obtain ⟨N, hN⟩ : ∃ N, N = leastS A' B' := ⟨_, rfl⟩
        rw [← hN] at HLE HST hin hla hlb
        obtain ⟨ia, hia⟩ : ∃ ia, headIs N A' = ia := ⟨_, rfl⟩
        obtain ⟨ib, hib⟩ : ∃ ib, headIs N B' = ib := ⟨_, rfl⟩
        have HBA := hidn (fun w9 (b9 : Below w2.heap.size w2 w9) => behind_any aa n ca A' ia w2 w9 HIA.out b9 HCA.out (fun e => by rw [hAe] at hia; rw [← hia] at e; cases e))
        have HBB := hidn (fun w9 (b9 : Below w2.heap.size w2 w9) => behind_any ba m cb B' ib w2 w9 HIB.out b9 HCB.out (fun e => by rw [hBe]; simp))
        rw [show (if ia then A'.tail else A') = behindS N A' from by rw [← hia]; exact behind_if N A'] at HBA
        rw [show (if ib then B'.tail else B') = behindS N B' from by rw [← hib]; exact behind_if N B'] at HBB
        rw [hia, hib] at HST
        have hn0 : n = 0 := (show Ils w2 aa n [] from by rw [← hAe]; exact HIA.out).nilI
        subst hn0
        have hia2 : ia = false := by rw [← hia, hAe]; rfl
        subst hia2
        obtain ⟨hm0, gb, ob, rfl, cB⟩ := (show Ils w2 ba m (xb :: tb) from by rw [← hBe]; exact HIB.out).headI
        have cB2 := (HB.out.cell (block_lt_of_cell cB)).trans cB
        have hmi : (0 : Int) < (m : Int) := by omega
        have hxb : (xb == N) = ib := by rw [← hib, hBe]; rfl
        obtain ⟨r, hr⟩ : ∃ r, inBothS false ib = r := ⟨_, rfl⟩
        have HKE := hidn (inBoth_any false ib)
        rw [hr] at HST HKE
        have HLT : Hid (false = true ∨ ib = true) := hidn (by
          rcases hin with e | e
          · left; rw [hAe] at e; cases e
          · right; rw [← hib, head_mem (HS.out.riseB HRB.out) hlb]; simpa using e)
        obtain ⟨va, vc, e9⟩ : ∃ va vc, u7 = Value.slice va K.length vc := by
          rcases HO.out.2 with ⟨h1, h2⟩ | ⟨g, cp, cur, h1, _⟩
          · exact ⟨none, 0, by rw [h1, h2]⟩
          · exact ⟨_, _, h1⟩
        have HKL : Hid (K.length ≤ 100000) := hidn (by have := (HS.out.len HRA.out HRB.out); have := HLA.out; have := HLB.out; omega)
        clear hin hla hlb hN hia hib hr cB hAe hBe
        go_wp2_with fail
        refine HLE.out.mono ?_
        clear HLE
        rintro e w4 ⟨rfl, b4⟩
        have B4 := HB.out.trans (b4.mono HB.out.size)
        have O4 := own_skip HO.out b4
        have cB4 := (b4.cell (block_lt_of_cell cB2)).trans cB2
        clear cB2
        have HB4 := hidn B4
        have HO4 := hidn O4
        clear B4 O4 b4 HO
        go_wp2_with fail
        refine (HKE.out w4).mono ?_
        rintro e w5 ⟨rfl, rfl⟩
        cases r with
        | true =>
          obtain ⟨wB, hwB⟩ : ∃ wB, wB = w5.alloc (.cells #[.int .i64 N] 3) := ⟨_, rfl⟩
          have bB : Below w5.heap.size w5 wB := by rw [hwB]; exact (Below.refl _ w5).alloc (Nat.le_refl _) _
          have qB : wB.heap[w5.heap.size]? = some (.cells #[.int .i64 N] 3 (0, 0)) := by rw [hwB]; exact heap_alloc_new w5 _
          have BB := HB4.out.trans (bB.mono HB4.out.size)
          have O2 := own_skip HO4.out bB
          obtain ⟨v3, w3, hrun, hown3, hgr3⟩ := appAny wB w2.heap.size 22 22 3 i1 z1 1 8 Tryd.underlying22 hi1 hy0 hy1 hy2 hyc (by decide) u7 K.length (ivs K) O2 BB.size (some ⟨w5.heap.size, 0, none⟩) 1 1 [.int .i64 N] rfl (fun e => by cases e) (fun x hx j u hu => by
            cases hx
            rw [add_none, Nat.zero_add, cell_of_row _ _ _ _ _ _ qB]
            simpa using hu) (fun u hu => by
            simp at hu
            rw [hu]
            rfl) (by have := HKL.out; unfold maxLen; omega) (by have := HKL.out; omega)
          have HB3 := hidn (BB.grown hgr3 BB.size (fun k hk => (O2.lt k hk).1))
          have HO3 : Hid (w3.ownsRow w2.heap.size 3 1 v3 (K ++ [N]).length (ivs (K ++ [N]))) := hidn (by
            rw [ivs_append, List.length_append]
            exact hown3)
          have HRUN := hidn hrun
          have HWB := hidn hwB
          subst e9
          clear hrun hown3 hgr3 O2 bB qB hwB BB HO4
          go_wp2_with (at_builtin; rw [← HWB.out]; refine wpList_app_runA rfl _ _ 22 22 rfl rfl _ _ _ rfl rfl HRUN.out ?_; clear HRUN)
          refine (HBA.out w3 HB3.out).mono ?_
          rintro e w6 ⟨a6, n6, c6, rfl, hI6, hc6, hl6, rfl⟩
          have HI6 := hidn hI6
          have HL6 := hidn hl6
          clear hI6 hl6
          go_wp2_with fail
          refine (HBB.out w6 HB3.out).mono ?_
          rintro e w7 ⟨a7, n7, c7, rfl, hI7, hc7, hl7, rfl⟩
          have HI7 := hidn hI7
          have HL7 := hidn hl7
          clear hI7 hl7
          go_wp2_with fail
          refine ⟨⟨_, _, _, a6, a7, n6, n7, c6, c7, rfl, rfl, HST, HI6, HI7, hidn hc6, hidn hc7, HO3, HB3⟩, ?_⟩
          have h6 := HL6.out
          have h7 := HL7.out
          have h8 := HLT.out
          show n6 + n7 < 0 + m
          exact sift_meas _ _ _ _ _ _ h6 h7 h8 (fun e => by cases e) (fun _ => hm0)
        | false =>
          have HO9 := HO4
          subst e9
          go_wp2_with fail
          refine (HBA.out w5 HB4.out).mono ?_
          rintro e w6 ⟨a6, n6, c6, rfl, hI6, hc6, hl6, rfl⟩
          have HI6 := hidn hI6
          have HL6 := hidn hl6
          clear hI6 hl6
          go_wp2_with fail
          refine (HBB.out w6 HB4.out).mono ?_
          rintro e w7 ⟨a7, n7, c7, rfl, hI7, hc7, hl7, rfl⟩
          have HI7 := hidn hI7
          have HL7 := hidn hl7
          clear hI7 hl7
          go_wp2_with fail
          refine ⟨⟨_, _, _, a6, a7, n6, n7, c6, c7, rfl, rfl, HST, HI6, HI7, hidn hc6, hidn hc7, HO9, HB4⟩, ?_⟩
          have h6 := HL6.out
          have h7 := HL7.out
          have h8 := HLT.out
          show n6 + n7 < 0 + m
          exact sift_meas _ _ _ _ _ _ h6 h7 h8 (fun e => by cases e) (fun _ => hm0)
    | cons xa ta =>
      cases hBe : B' with
      | nil =>
        have HLE := hidn (least_any aa ba n ca m cb A' B' wr (HIA.out.below HB.out) (HIB.out.below HB.out) (.inl (by rw [hAe]; simp)))
        obtain ⟨hin, hla, hlb⟩ := leastS_spec (HS.out.riseA HRA.out) (HS.out.riseB HRB.out) ((.inl (by rw [hAe]; simp)) : A' ≠ [] ∨ B' ≠ [])
        have HST := hidn (HS.out.step HRA.out HRB.out _ hin hla hlb)
        obtain ⟨N, hN⟩ : ∃ N, N = leastS A' B' := ⟨_, rfl⟩
        rw [← hN] at HLE HST hin hla hlb
        obtain ⟨ia, hia⟩ : ∃ ia, headIs N A' = ia := ⟨_, rfl⟩
        obtain ⟨ib, hib⟩ : ∃ ib, headIs N B' = ib := ⟨_, rfl⟩
        have HBA := hidn (fun w9 (b9 : Below w2.heap.size w2 w9) => behind_any aa n ca A' ia w2 w9 HIA.out b9 HCA.out (fun e => by rw [hAe]; simp))
        have HBB := hidn (fun w9 (b9 : Below w2.heap.size w2 w9) => behind_any ba m cb B' ib w2 w9 HIB.out b9 HCB.out (fun e => by rw [hBe] at hib; rw [← hib] at e; cases e))
        rw [show (if ia then A'.tail else A') = behindS N A' from by rw [← hia]; exact behind_if N A'] at HBA
        rw [show (if ib then B'.tail else B') = behindS N B' from by rw [← hib]; exact behind_if N B'] at HBB
        rw [hia, hib] at HST
        obtain ⟨hn0, ga, oa, rfl, cA⟩ := (show Ils w2 aa n (xa :: ta) from by rw [← hAe]; exact HIA.out).headI
        have cA2 := (HB.out.cell (block_lt_of_cell cA)).trans cA
        have hni : (0 : Int) < (n : Int) := by omega
        have hxa : (xa == N) = ia := by rw [← hia, hAe]; rfl
        have hm0 : m = 0 := (show Ils w2 ba m [] from by rw [← hBe]; exact HIB.out).nilI
        subst hm0
        have hib2 : ib = false := by rw [← hib, hBe]; rfl
        subst hib2
        obtain ⟨r, hr⟩ : ∃ r, inBothS ia false = r := ⟨_, rfl⟩
        have HKE := hidn (inBoth_any ia false)
        rw [hr] at HST HKE
        have HLT : Hid (ia = true ∨ false = true) := hidn (by
          rcases hin with e | e
          · left; rw [← hia, head_mem (HS.out.riseA HRA.out) hla]; simpa using e
          · right; rw [hBe] at e; cases e)
        obtain ⟨va, vc, e9⟩ : ∃ va vc, u7 = Value.slice va K.length vc := by
          rcases HO.out.2 with ⟨h1, h2⟩ | ⟨g, cp, cur, h1, _⟩
          · exact ⟨none, 0, by rw [h1, h2]⟩
          · exact ⟨_, _, h1⟩
        have HKL : Hid (K.length ≤ 100000) := hidn (by have := (HS.out.len HRA.out HRB.out); have := HLA.out; have := HLB.out; omega)
        clear hin hla hlb hN hia hib hr cA hAe hBe
        go_wp2_with fail
        refine HLE.out.mono ?_
        clear HLE
        rintro e w4 ⟨rfl, b4⟩
        have B4 := HB.out.trans (b4.mono HB.out.size)
        have O4 := own_skip HO.out b4
        have cA4 := (b4.cell (block_lt_of_cell cA2)).trans cA2
        clear cA2
        have HB4 := hidn B4
        have HO4 := hidn O4
        clear B4 O4 b4 HO
        go_wp2_with fail
        refine (HKE.out w4).mono ?_
        rintro e w5 ⟨rfl, rfl⟩
        cases r with
        | true =>
          obtain ⟨wB, hwB⟩ : ∃ wB, wB = w5.alloc (.cells #[.int .i64 N] 3) := ⟨_, rfl⟩
          have bB : Below w5.heap.size w5 wB := by rw [hwB]; exact (Below.refl _ w5).alloc (Nat.le_refl _) _
          have qB : wB.heap[w5.heap.size]? = some (.cells #[.int .i64 N] 3 (0, 0)) := by rw [hwB]; exact heap_alloc_new w5 _
          have BB := HB4.out.trans (bB.mono HB4.out.size)
          have O2 := own_skip HO4.out bB
          obtain ⟨v3, w3, hrun, hown3, hgr3⟩ := appAny wB w2.heap.size 22 22 3 i1 z1 1 8 Tryd.underlying22 hi1 hy0 hy1 hy2 hyc (by decide) u7 K.length (ivs K) O2 BB.size (some ⟨w5.heap.size, 0, none⟩) 1 1 [.int .i64 N] rfl (fun e => by cases e) (fun x hx j u hu => by
            cases hx
            rw [add_none, Nat.zero_add, cell_of_row _ _ _ _ _ _ qB]
            simpa using hu) (fun u hu => by
            simp at hu
            rw [hu]
            rfl) (by have := HKL.out; unfold maxLen; omega) (by have := HKL.out; omega)
          have HB3 := hidn (BB.grown hgr3 BB.size (fun k hk => (O2.lt k hk).1))
          have HO3 : Hid (w3.ownsRow w2.heap.size 3 1 v3 (K ++ [N]).length (ivs (K ++ [N]))) := hidn (by
            rw [ivs_append, List.length_append]
            exact hown3)
          have HRUN := hidn hrun
          have HWB := hidn hwB
          subst e9
          clear hrun hown3 hgr3 O2 bB qB hwB BB HO4
          go_wp2_with (at_builtin; rw [← HWB.out]; refine wpList_app_runA rfl _ _ 22 22 rfl rfl _ _ _ rfl rfl HRUN.out ?_; clear HRUN)
          refine (HBA.out w3 HB3.out).mono ?_
          rintro e w6 ⟨a6, n6, c6, rfl, hI6, hc6, hl6, rfl⟩
          have HI6 := hidn hI6
          have HL6 := hidn hl6
          clear hI6 hl6
          go_wp2_with fail
          refine (HBB.out w6 HB3.out).mono ?_
          rintro e w7 ⟨a7, n7, c7, rfl, hI7, hc7, hl7, rfl⟩
          have HI7 := hidn hI7
          have HL7 := hidn hl7
          clear hI7 hl7
          go_wp2_with fail
          refine ⟨⟨_, _, _, a6, a7, n6, n7, c6, c7, rfl, rfl, HST, HI6, HI7, hidn hc6, hidn hc7, HO3, HB3⟩, ?_⟩
          have h6 := HL6.out
          have h7 := HL7.out
          have h8 := HLT.out
          show n6 + n7 < n + 0
          exact sift_meas _ _ _ _ _ _ h6 h7 h8 (fun _ => hn0) (fun e => by cases e)
        | false =>
          have HO9 := HO4
          subst e9
          go_wp2_with fail
          refine (HBA.out w5 HB4.out).mono ?_
          rintro e w6 ⟨a6, n6, c6, rfl, hI6, hc6, hl6, rfl⟩
          have HI6 := hidn hI6
          have HL6 := hidn hl6
          clear hI6 hl6
          go_wp2_with fail
          refine (HBB.out w6 HB4.out).mono ?_
          rintro e w7 ⟨a7, n7, c7, rfl, hI7, hc7, hl7, rfl⟩
          have HI7 := hidn hI7
          have HL7 := hidn hl7
          clear hI7 hl7
          go_wp2_with fail
          refine ⟨⟨_, _, _, a6, a7, n6, n7, c6, c7, rfl, rfl, HST, HI6, HI7, hidn hc6, hidn hc7, HO9, HB4⟩, ?_⟩
          have h6 := HL6.out
          have h7 := HL7.out
          have h8 := HLT.out
          show n6 + n7 < n + 0
          exact sift_meas _ _ _ _ _ _ h6 h7 h8 (fun _ => hn0) (fun e => by cases e)
      | cons xb tb =>
        have HLE := hidn (least_any aa ba n ca m cb A' B' wr (HIA.out.below HB.out) (HIB.out.below HB.out) (.inl (by rw [hAe]; simp)))
        obtain ⟨hin, hla, hlb⟩ := leastS_spec (HS.out.riseA HRA.out) (HS.out.riseB HRB.out) ((.inl (by rw [hAe]; simp)) : A' ≠ [] ∨ B' ≠ [])
        have HST := hidn (HS.out.step HRA.out HRB.out _ hin hla hlb)
        obtain ⟨N, hN⟩ : ∃ N, N = leastS A' B' := ⟨_, rfl⟩
        rw [← hN] at HLE HST hin hla hlb
        obtain ⟨ia, hia⟩ : ∃ ia, headIs N A' = ia := ⟨_, rfl⟩
        obtain ⟨ib, hib⟩ : ∃ ib, headIs N B' = ib := ⟨_, rfl⟩
        have HBA := hidn (fun w9 (b9 : Below w2.heap.size w2 w9) => behind_any aa n ca A' ia w2 w9 HIA.out b9 HCA.out (fun e => by rw [hAe]; simp))
        have HBB := hidn (fun w9 (b9 : Below w2.heap.size w2 w9) => behind_any ba m cb B' ib w2 w9 HIB.out b9 HCB.out (fun e => by rw [hBe]; simp))
        rw [show (if ia then A'.tail else A') = behindS N A' from by rw [← hia]; exact behind_if N A'] at HBA
        rw [show (if ib then B'.tail else B') = behindS N B' from by rw [← hib]; exact behind_if N B'] at HBB
        rw [hia, hib] at HST
        obtain ⟨hn0, ga, oa, rfl, cA⟩ := (show Ils w2 aa n (xa :: ta) from by rw [← hAe]; exact HIA.out).headI
        have cA2 := (HB.out.cell (block_lt_of_cell cA)).trans cA
        have hni : (0 : Int) < (n : Int) := by omega
        have hxa : (xa == N) = ia := by rw [← hia, hAe]; rfl
        obtain ⟨hm0, gb, ob, rfl, cB⟩ := (show Ils w2 ba m (xb :: tb) from by rw [← hBe]; exact HIB.out).headI
        have cB2 := (HB.out.cell (block_lt_of_cell cB)).trans cB
        have hmi : (0 : Int) < (m : Int) := by omega
        have hxb : (xb == N) = ib := by rw [← hib, hBe]; rfl
        obtain ⟨r, hr⟩ : ∃ r, inBothS ia ib = r := ⟨_, rfl⟩
        have HKE := hidn (inBoth_any ia ib)
        rw [hr] at HST HKE
        have HLT : Hid (ia = true ∨ ib = true) := hidn (by
          rcases hin with e | e
          · left; rw [← hia, head_mem (HS.out.riseA HRA.out) hla]; simpa using e
          · right; rw [← hib, head_mem (HS.out.riseB HRB.out) hlb]; simpa using e)
        obtain ⟨va, vc, e9⟩ : ∃ va vc, u7 = Value.slice va K.length vc := by
          rcases HO.out.2 with ⟨h1, h2⟩ | ⟨g, cp, cur, h1, _⟩
          · exact ⟨none, 0, by rw [h1, h2]⟩
          · exact ⟨_, _, h1⟩
        have HKL : Hid (K.length ≤ 100000) := hidn (by have := (HS.out.len HRA.out HRB.out); have := HLA.out; have := HLB.out; omega)
        clear hin hla hlb hN hia hib hr cA cB hAe hBe
        go_wp2_with fail
        refine HLE.out.mono ?_
        clear HLE
        rintro e w4 ⟨rfl, b4⟩
        have B4 := HB.out.trans (b4.mono HB.out.size)
        have O4 := own_skip HO.out b4
        have cA4 := (b4.cell (block_lt_of_cell cA2)).trans cA2
        have cB4 := (b4.cell (block_lt_of_cell cB2)).trans cB2
        clear cA2
        clear cB2
        have HB4 := hidn B4
        have HO4 := hidn O4
        clear B4 O4 b4 HO
        go_wp2_with fail
        refine (HKE.out w4).mono ?_
        rintro e w5 ⟨rfl, rfl⟩
        cases r with
        | true =>
          obtain ⟨wB, hwB⟩ : ∃ wB, wB = w5.alloc (.cells #[.int .i64 N] 3) := ⟨_, rfl⟩
          have bB : Below w5.heap.size w5 wB := by rw [hwB]; exact (Below.refl _ w5).alloc (Nat.le_refl _) _
          have qB : wB.heap[w5.heap.size]? = some (.cells #[.int .i64 N] 3 (0, 0)) := by rw [hwB]; exact heap_alloc_new w5 _
          have BB := HB4.out.trans (bB.mono HB4.out.size)
          have O2 := own_skip HO4.out bB
          obtain ⟨v3, w3, hrun, hown3, hgr3⟩ := appAny wB w2.heap.size 22 22 3 i1 z1 1 8 Tryd.underlying22 hi1 hy0 hy1 hy2 hyc (by decide) u7 K.length (ivs K) O2 BB.size (some ⟨w5.heap.size, 0, none⟩) 1 1 [.int .i64 N] rfl (fun e => by cases e) (fun x hx j u hu => by
            cases hx
            rw [add_none, Nat.zero_add, cell_of_row _ _ _ _ _ _ qB]
            simpa using hu) (fun u hu => by
            simp at hu
            rw [hu]
            rfl) (by have := HKL.out; unfold maxLen; omega) (by have := HKL.out; omega)
          have HB3 := hidn (BB.grown hgr3 BB.size (fun k hk => (O2.lt k hk).1))
          have HO3 : Hid (w3.ownsRow w2.heap.size 3 1 v3 (K ++ [N]).length (ivs (K ++ [N]))) := hidn (by
            rw [ivs_append, List.length_append]
            exact hown3)
          have HRUN := hidn hrun
          have HWB := hidn hwB
          subst e9
          clear hrun hown3 hgr3 O2 bB qB hwB BB HO4
          go_wp2_with (at_builtin; rw [← HWB.out]; refine wpList_app_runA rfl _ _ 22 22 rfl rfl _ _ _ rfl rfl HRUN.out ?_; clear HRUN)
          refine (HBA.out w3 HB3.out).mono ?_
          rintro e w6 ⟨a6, n6, c6, rfl, hI6, hc6, hl6, rfl⟩
          have HI6 := hidn hI6
          have HL6 := hidn hl6
          clear hI6 hl6
          go_wp2_with fail
          refine (HBB.out w6 HB3.out).mono ?_
          rintro e w7 ⟨a7, n7, c7, rfl, hI7, hc7, hl7, rfl⟩
          have HI7 := hidn hI7
          have HL7 := hidn hl7
          clear hI7 hl7
          go_wp2_with fail
          refine ⟨⟨_, _, _, a6, a7, n6, n7, c6, c7, rfl, rfl, HST, HI6, HI7, hidn hc6, hidn hc7, HO3, HB3⟩, ?_⟩
          have h6 := HL6.out
          have h7 := HL7.out
          have h8 := HLT.out
          show n6 + n7 < n + m
          exact sift_meas _ _ _ _ _ _ h6 h7 h8 (fun _ => hn0) (fun _ => hm0)
        | false =>
          have HO9 := HO4
          subst e9
          go_wp2_with fail
          refine (HBA.out w5 HB4.out).mono ?_
          rintro e w6 ⟨a6, n6, c6, rfl, hI6, hc6, hl6, rfl⟩
          have HI6 := hidn hI6
          have HL6 := hidn hl6
          clear hI6 hl6
          go_wp2_with fail
          refine (HBB.out w6 HB4.out).mono ?_
          rintro e w7 ⟨a7, n7, c7, rfl, hI7, hc7, hl7, rfl⟩
          have HI7 := hidn hI7
          have HL7 := hidn hl7
          clear hI7 hl7
          go_wp2_with fail
          refine ⟨⟨_, _, _, a6, a7, n6, n7, c6, c7, rfl, rfl, HST, HI6, HI7, hidn hc6, hidn hc7, HO9, HB4⟩, ?_⟩
          have h6 := HL6.out
          have h7 := HL7.out
          have h8 := HLT.out
          show n6 + n7 < n + m
          exact sift_meas _ _ _ _ _ _ h6 h7 h8 (fun _ => hn0) (fun _ => hm0)

theorem ixMeet_any (a b : Option Addr) (la ca lb cb : Nat) (l1 l2 : List Int) (w : World) (h1 : Ils w a la l1) (h2 : Ils w b lb l2) (hm1 : la ≤ 1000) (hm2 : lb ≤ 1000) :
    Calls Tryd.prog 5 #[.slice a la ca, .slice b lb cb] w (SiftP inBothS l1 l2 w) := by
  have H := hidn (sift_inBoth a b la ca lb cb l1 l2 w h1 h2 hm1 hm2)
  clear h1 h2
  go_enter Tryd.func5, Tryd.ntmps5
  go_wp2_with fail
  refine H.out.mono ?_
  rintro e w1 ⟨L, v, rfl, ho, hL, hl, hb⟩
  have HO := hidn ho
  have HL := hidn hL
  have HN := hidn hl
  have HB := hidn hb
  clear ho hL hl hb
  go_wp2_with fail
  go_ret
  exact ⟨L, v, rfl, HO.out, HL.out, HN.out, HB.out⟩

end Go.Proofs.YtiffbbcgailmnaaDoor

namespace Go.Proofs.YtiffbbcgailmnaaDoor
open Go.RowKit Go.Joins
set_option linter.unusedVariables false

set_option maxHeartbeats 4000000 in
set_option maxRecDepth 100000 in
theorem sift_inFirstAlone (a b : Option Addr) (la ca0 lb cb0 : Nat) (l1 l2 : List Int) (w : World) (h1 : Ils w a la l1) (h2 : Ils w b lb l2) (hm1 : la ≤ 1000) (hm2 : lb ≤ 1000) :
    Calls Tryd.prog 9 #[.slice a la ca0, .slice b lb cb0, .func (.func 10) #[] #[]] w (SiftP inFirstAloneS l1 l2 w) := by
  obtain ⟨i1, z1, hi1, hy0, hy1, hy2, hyc⟩ := iInfo
  have H1 := hidn (ixRising_any a la ca0 l1 w h1 hm1)
  have H2 := hidn (fun w2 (b2 : Below w.heap.size w w2) => ixRising_any b lb cb0 l2 w2 (h2.below b2) hm2)
  obtain ⟨A, hA⟩ : ∃ A, A = riseS l1 := ⟨_, rfl⟩
  obtain ⟨B, hB⟩ : ∃ B, B = riseS l2 := ⟨_, rfl⟩
  have HRA : Hid (Rises A) := hidn (by rw [hA]; exact riseS_rises l1)
  have HRB : Hid (Rises B) := hidn (by rw [hB]; exact riseS_rises l2)
  have HLA : Hid (A.length ≤ 1000) := hidn (by rw [hA]; have := riseS_len l1; have := h1.1; omega)
  have HLB : Hid (B.length ≤ 1000) := hidn (by rw [hB]; have := riseS_len l2; have := h2.1; omega)
  have HLL : Hid (A.length ≤ l1.length ∧ B.length ≤ l2.length) := hidn (by rw [hA, hB]; exact ⟨riseS_len l1, riseS_len l2⟩)
  have HMA : Hid (∀ x, x ∈ A ↔ x ∈ l1) := hidn (by rw [hA]; exact riseS_mem l1)
  have HMB : Hid (∀ x, x ∈ B ↔ x ∈ l2) := hidn (by rw [hB]; exact riseS_mem l2)
  rw [← hA] at H1
  rw [← hB] at H2
  clear h1 h2 hA hB
  go_enter Tryd.func9, Tryd.ntmps9
  go_wp2_with fail
  refine H1.out.mono ?_
  rintro e w1 ⟨aa, ca, rfl, hIA, hca, b1⟩
  have HIA1 := hidn hIA
  have HB1 := hidn b1
  clear hIA b1 H1
  go_wp2_with fail
  refine (H2.out w1 HB1.out).mono ?_
  rintro e w2 ⟨ba, cb, rfl, hIB, hcb, b2⟩
  have HIB0 := hidn hIB
  have HIA0 := hidn (HIA1.out.below b2)
  have HB2 := hidn (HB1.out.trans (b2.mono HB1.out.size))
  have HCA0 := hidn hca
  have HCB0 := hidn hcb
  clear hIB b2 H2 hca hcb HIA1
  go_wp2_with fail
  go_loopw [0, 1, 7] (fun av bv kv wr => ∃ (A' B' K : List Int) (aa ba : Option Addr) (n m ca cb : Nat), av = .slice aa n ca ∧ bv = .slice ba m cb ∧ Hid (SiftI inFirstAloneS A B A' B' K) ∧ Hid (Ils w2 aa n A') ∧ Hid (Ils w2 ba m B') ∧ Hid (n ≤ ca) ∧ Hid (m ≤ cb) ∧ Hid (wr.ownsRow w2.heap.size 3 1 kv K.length (ivs K)) ∧ Hid (Below w2.heap.size w2 wr)) (fun av bv _ _ => slN9 av + slN9 bv)
  case atStart => exact ⟨A, B, [], aa, ba, _, _, ca, cb, rfl, rfl, hidn (SiftI.start _ A B), HIA0, HIB0, HCA0, HCB0, hidn (World.ownsRow_nil _ _ _ _), hidn (Below.refl _ _)⟩
  case round =>
    obtain ⟨A', B', K, aa, ba, n, m, ca, cb, rfl, rfl, HS, HIA, HIB, HCA, HCB, HO, HB⟩ := hrel
    cases hAe : A' with
    | nil =>
      cases hBe : B' with
      | nil =>
        have hn0 : n = 0 := (show Ils w2 aa n [] from by rw [← hAe]; exact HIA.out).nilI
        have hm0 : m = 0 := (show Ils w2 ba m [] from by rw [← hBe]; exact HIB.out).nilI
        subst hn0
        subst hm0
        have hS9 := HS.out
        rw [hAe, hBe] at hS9
        have hD := hS9.done
        have hLn := HS.out.len HRA.out HRB.out
        have HD := hidn hD
        have HLN := hidn hLn
        clear hD hLn hS9 hAe hBe
        go_wp2_with fail
        go_ret
        refine ⟨K, _, rfl, own_lower HO.out HB2.out.size, ⟨HD.out.1, fun x => ?_⟩, ?_, HB2.out.trans (HB.out.mono HB2.out.size)⟩
        · rw [HD.out.2 x]
          have e1 : decide (x ∈ A) = decide (x ∈ l1) := decide_eq_decide.2 (HMA.out x)
          have e2 : decide (x ∈ B) = decide (x ∈ l2) := decide_eq_decide.2 (HMB.out x)
          rw [e1, e2, HMA.out x, HMB.out x]
        · have := HLN.out
          have := HLL.out
          omega
      | cons xb tb =>
        have HLE := hidn (least_any aa ba n ca m cb A' B' wr (HIA.out.below HB.out) (HIB.out.below HB.out) (.inr (by rw [hBe]; simp)))
        obtain ⟨hin, hla, hlb⟩ := leastS_spec (HS.out.riseA HRA.out) (HS.out.riseB HRB.out) ((.inr (by rw [hBe]; simp)) : A' ≠ [] ∨ B' ≠ [])
        have HST := hidn (HS.out.step HRA.out HRB.out _ hin hla hlb)
        obtain ⟨N, hN⟩ : ∃ N, N = leastS A' B' := ⟨_, rfl⟩
        rw [← hN] at HLE HST hin hla hlb
        obtain ⟨ia, hia⟩ : ∃ ia, headIs N A' = ia := ⟨_, rfl⟩
        obtain ⟨ib, hib⟩ : ∃ ib, headIs N B' = ib := ⟨_, rfl⟩
        have HBA := hidn (fun w9 (b9 : Below w2.heap.size w2 w9) => behind_any aa n ca A' ia w2 w9 HIA.out b9 HCA.out (fun e => by rw [hAe] at hia; rw [← hia] at e; cases e))
        have HBB := hidn (fun w9 (b9 : Below w2.heap.size w2 w9) => behind_any ba m cb B' ib w2 w9 HIB.out b9 HCB.out (fun e => by rw [hBe]; simp))
        rw [show (if ia then A'.tail else A') = behindS N A' from by rw [← hia]; exact behind_if N A'] at HBA
        rw [show (if ib then B'.tail else B') = behindS N B' from by rw [← hib]; exact behind_if N B'] at HBB
        rw [hia, hib] at HST
        have hn0 : n = 0 := (show Ils w2 aa n [] from by rw [← hAe]; exact HIA.out).nilI
        subst hn0
        have hia2 : ia = false := by rw [← hia, hAe]; rfl
        subst hia2
        obtain ⟨hm0, gb, ob, rfl, cB⟩ := (show Ils w2 ba m (xb :: tb) from by rw [← hBe]; exact HIB.out).headI
        have cB2 := (HB.out.cell (block_lt_of_cell cB)).trans cB
        have hmi : (0 : Int) < (m : Int) := by omega
        have hxb : (xb == N) = ib := by rw [← hib, hBe]; rfl
        obtain ⟨r, hr⟩ : ∃ r, inFirstAloneS false ib = r := ⟨_, rfl⟩
        have HKE := hidn (inFirstAlone_any false ib)
        rw [hr] at HST HKE
        have HLT : Hid (false = true ∨ ib = true) := hidn (by
          rcases hin with e | e
          · left; rw [hAe] at e; cases e
          · right; rw [← hib, head_mem (HS.out.riseB HRB.out) hlb]; simpa using e)
        obtain ⟨va, vc, e9⟩ : ∃ va vc, u7 = Value.slice va K.length vc := by
          rcases HO.out.2 with ⟨h1, h2⟩ | ⟨g, cp, cur, h1, _⟩
          · exact ⟨none, 0, by rw [h1, h2]⟩
          · exact ⟨_, _, h1⟩
        have HKL : Hid (K.length ≤ 100000) := hidn (by have := (HS.out.len HRA.out HRB.out); have := HLA.out; have := HLB.out; omega)
        clear hin hla hlb hN hia hib hr cB hAe hBe
        go_wp2_with fail
        refine HLE.out.mono ?_
        clear HLE
        rintro e w4 ⟨rfl, b4⟩
        have B4 := HB.out.trans (b4.mono HB.out.size)
        have O4 := own_skip HO.out b4
        have cB4 := (b4.cell (block_lt_of_cell cB2)).trans cB2
        clear cB2
        have HB4 := hidn B4
        have HO4 := hidn O4
        clear B4 O4 b4 HO
        go_wp2_with fail
        refine (HKE.out w4).mono ?_
        rintro e w5 ⟨rfl, rfl⟩
        cases r with
        | true =>
          obtain ⟨wB, hwB⟩ : ∃ wB, wB = w5.alloc (.cells #[.int .i64 N] 3) := ⟨_, rfl⟩
          have bB : Below w5.heap.size w5 wB := by rw [hwB]; exact (Below.refl _ w5).alloc (Nat.le_refl _) _
          have qB : wB.heap[w5.heap.size]? = some (.cells #[.int .i64 N] 3 (0, 0)) := by rw [hwB]; exact heap_alloc_new w5 _
          have BB := HB4.out.trans (bB.mono HB4.out.size)
          have O2 := own_skip HO4.out bB
          obtain ⟨v3, w3, hrun, hown3, hgr3⟩ := appAny wB w2.heap.size 22 22 3 i1 z1 1 8 Tryd.underlying22 hi1 hy0 hy1 hy2 hyc (by decide) u7 K.length (ivs K) O2 BB.size (some ⟨w5.heap.size, 0, none⟩) 1 1 [.int .i64 N] rfl (fun e => by cases e) (fun x hx j u hu => by
            cases hx
            rw [add_none, Nat.zero_add, cell_of_row _ _ _ _ _ _ qB]
            simpa using hu) (fun u hu => by
            simp at hu
            rw [hu]
            rfl) (by have := HKL.out; unfold maxLen; omega) (by have := HKL.out; omega)
          have HB3 := hidn (BB.grown hgr3 BB.size (fun k hk => (O2.lt k hk).1))
          have HO3 : Hid (w3.ownsRow w2.heap.size 3 1 v3 (K ++ [N]).length (ivs (K ++ [N]))) := hidn (by
            rw [ivs_append, List.length_append]
            exact hown3)
          have HRUN := hidn hrun
          have HWB := hidn hwB
          subst e9
          clear hrun hown3 hgr3 O2 bB qB hwB BB HO4
          go_wp2_with (at_builtin; rw [← HWB.out]; refine wpList_app_runA rfl _ _ 22 22 rfl rfl _ _ _ rfl rfl HRUN.out ?_; clear HRUN)
          refine (HBA.out w3 HB3.out).mono ?_
          rintro e w6 ⟨a6, n6, c6, rfl, hI6, hc6, hl6, rfl⟩
          have HI6 := hidn hI6
          have HL6 := hidn hl6
          clear hI6 hl6
          go_wp2_with fail
          refine (HBB.out w6 HB3.out).mono ?_
          rintro e w7 ⟨a7, n7, c7, rfl, hI7, hc7, hl7, rfl⟩
          have HI7 := hidn hI7
          have HL7 := hidn hl7
          clear hI7 hl7
          go_wp2_with fail
          refine ⟨⟨_, _, _, a6, a7, n6, n7, c6, c7, rfl, rfl, HST, HI6, HI7, hidn hc6, hidn hc7, HO3, HB3⟩, ?_⟩
          have h6 := HL6.out
          have h7 := HL7.out
          have h8 := HLT.out
          show n6 + n7 < 0 + m
          exact sift_meas _ _ _ _ _ _ h6 h7 h8 (fun e => by cases e) (fun _ => hm0)
        | false =>
          have HO9 := HO4
          subst e9
          go_wp2_with fail
          refine (HBA.out w5 HB4.out).mono ?_
          rintro e w6 ⟨a6, n6, c6, rfl, hI6, hc6, hl6, rfl⟩
          have HI6 := hidn hI6
          have HL6 := hidn hl6
          clear hI6 hl6
          go_wp2_with fail
          refine (HBB.out w6 HB4.out).mono ?_
          rintro e w7 ⟨a7, n7, c7, rfl, hI7, hc7, hl7, rfl⟩
          have HI7 := hidn hI7
          have HL7 := hidn hl7
          clear hI7 hl7
          go_wp2_with fail
          refine ⟨⟨_, _, _, a6, a7, n6, n7, c6, c7, rfl, rfl, HST, HI6, HI7, hidn hc6, hidn hc7, HO9, HB4⟩, ?_⟩
          have h6 := HL6.out
          have h7 := HL7.out
          have h8 := HLT.out
          show n6 + n7 < 0 + m
          exact sift_meas _ _ _ _ _ _ h6 h7 h8 (fun e => by cases e) (fun _ => hm0)
    | cons xa ta =>
      cases hBe : B' with
      | nil =>
        have HLE := hidn (least_any aa ba n ca m cb A' B' wr (HIA.out.below HB.out) (HIB.out.below HB.out) (.inl (by rw [hAe]; simp)))
        obtain ⟨hin, hla, hlb⟩ := leastS_spec (HS.out.riseA HRA.out) (HS.out.riseB HRB.out) ((.inl (by rw [hAe]; simp)) : A' ≠ [] ∨ B' ≠ [])
        have HST := hidn (HS.out.step HRA.out HRB.out _ hin hla hlb)
        obtain ⟨N, hN⟩ : ∃ N, N = leastS A' B' := ⟨_, rfl⟩
        rw [← hN] at HLE HST hin hla hlb
        obtain ⟨ia, hia⟩ : ∃ ia, headIs N A' = ia := ⟨_, rfl⟩
        obtain ⟨ib, hib⟩ : ∃ ib, headIs N B' = ib := ⟨_, rfl⟩
        have HBA := hidn (fun w9 (b9 : Below w2.heap.size w2 w9) => behind_any aa n ca A' ia w2 w9 HIA.out b9 HCA.out (fun e => by rw [hAe]; simp))
        have HBB := hidn (fun w9 (b9 : Below w2.heap.size w2 w9) => behind_any ba m cb B' ib w2 w9 HIB.out b9 HCB.out (fun e => by rw [hBe] at hib; rw [← hib] at e; cases e))
        rw [show (if ia then A'.tail else A') = behindS N A' from by rw [← hia]; exact behind_if N A'] at HBA
        rw [show (if ib then B'.tail else B') = behindS N B' from by rw [← hib]; exact behind_if N B'] at HBB
        rw [hia, hib] at HST
        obtain ⟨hn0, ga, oa, rfl, cA⟩ := (show Ils w2 aa n (xa :: ta) from by rw [← hAe]; exact HIA.out).headI
        have cA2 := (HB.out.cell (block_lt_of_cell cA)).trans cA
        have hni : (0 : Int) < (n : Int) := by omega
        have hxa : (xa == N) = ia := by rw [← hia, hAe]; rfl
        have hm0 : m = 0 := (show Ils w2 ba m [] from by rw [← hBe]; exact HIB.out).nilI
        subst hm0
        have hib2 : ib = false := by rw [← hib, hBe]; rfl
        subst hib2
        obtain ⟨r, hr⟩ : ∃ r, inFirstAloneS ia false = r := ⟨_, rfl⟩
        have HKE := hidn (inFirstAlone_any ia false)
        rw [hr] at HST HKE
        have HLT : Hid (ia = true ∨ false = true) := hidn (by
          rcases hin with e | e
          · left; rw [← hia, head_mem (HS.out.riseA HRA.out) hla]; simpa using e
          · right; rw [hBe] at e; cases e)
        obtain ⟨va, vc, e9⟩ : ∃ va vc, u7 = Value.slice va K.length vc := by
          rcases HO.out.2 with ⟨h1, h2⟩ | ⟨g, cp, cur, h1, _⟩
          · exact ⟨none, 0, by rw [h1, h2]⟩
          · exact ⟨_, _, h1⟩
        have HKL : Hid (K.length ≤ 100000) := hidn (by have := (HS.out.len HRA.out HRB.out); have := HLA.out; have := HLB.out; omega)
        clear hin hla hlb hN hia hib hr cA hAe hBe
        go_wp2_with fail
        refine HLE.out.mono ?_
        clear HLE
        rintro e w4 ⟨rfl, b4⟩
        have B4 := HB.out.trans (b4.mono HB.out.size)
        have O4 := own_skip HO.out b4
        have cA4 := (b4.cell (block_lt_of_cell cA2)).trans cA2
        clear cA2
        have HB4 := hidn B4
        have HO4 := hidn O4
        clear B4 O4 b4 HO
        go_wp2_with fail
        refine (HKE.out w4).mono ?_
        rintro e w5 ⟨rfl, rfl⟩
        cases r with
        | true =>
          obtain ⟨wB, hwB⟩ : ∃ wB, wB = w5.alloc (.cells #[.int .i64 N] 3) := ⟨_, rfl⟩
          have bB : Below w5.heap.size w5 wB := by rw [hwB]; exact (Below.refl _ w5).alloc (Nat.le_refl _) _
          have qB : wB.heap[w5.heap.size]? = some (.cells #[.int .i64 N] 3 (0, 0)) := by rw [hwB]; exact heap_alloc_new w5 _
          have BB := HB4.out.trans (bB.mono HB4.out.size)
          have O2 := own_skip HO4.out bB
          obtain ⟨v3, w3, hrun, hown3, hgr3⟩ := appAny wB w2.heap.size 22 22 3 i1 z1 1 8 Tryd.underlying22 hi1 hy0 hy1 hy2 hyc (by decide) u7 K.length (ivs K) O2 BB.size (some ⟨w5.heap.size, 0, none⟩) 1 1 [.int .i64 N] rfl (fun e => by cases e) (fun x hx j u hu => by
            cases hx
            rw [add_none, Nat.zero_add, cell_of_row _ _ _ _ _ _ qB]
            simpa using hu) (fun u hu => by
            simp at hu
            rw [hu]
            rfl) (by have := HKL.out; unfold maxLen; omega) (by have := HKL.out; omega)
          have HB3 := hidn (BB.grown hgr3 BB.size (fun k hk => (O2.lt k hk).1))
          have HO3 : Hid (w3.ownsRow w2.heap.size 3 1 v3 (K ++ [N]).length (ivs (K ++ [N]))) := hidn (by
            rw [ivs_append, List.length_append]
            exact hown3)
          have HRUN := hidn hrun
          have HWB := hidn hwB
          subst e9
          clear hrun hown3 hgr3 O2 bB qB hwB BB HO4
          go_wp2_with (at_builtin; rw [← HWB.out]; refine wpList_app_runA rfl _ _ 22 22 rfl rfl _ _ _ rfl rfl HRUN.out ?_; clear HRUN)
          refine (HBA.out w3 HB3.out).mono ?_
          rintro e w6 ⟨a6, n6, c6, rfl, hI6, hc6, hl6, rfl⟩
          have HI6 := hidn hI6
          have HL6 := hidn hl6
          clear hI6 hl6
          go_wp2_with fail
          refine (HBB.out w6 HB3.out).mono ?_
          rintro e w7 ⟨a7, n7, c7, rfl, hI7, hc7, hl7, rfl⟩
          have HI7 := hidn hI7
          have HL7 := hidn hl7
          clear hI7 hl7
          go_wp2_with fail
          refine ⟨⟨_, _, _, a6, a7, n6, n7, c6, c7, rfl, rfl, HST, HI6, HI7, hidn hc6, hidn hc7, HO3, HB3⟩, ?_⟩
          have h6 := HL6.out
          have h7 := HL7.out
          have h8 := HLT.out
          show n6 + n7 < n + 0
          exact sift_meas _ _ _ _ _ _ h6 h7 h8 (fun _ => hn0) (fun e => by cases e)
        | false =>
          have HO9 := HO4
          subst e9
          go_wp2_with fail
          refine (HBA.out w5 HB4.out).mono ?_
          rintro e w6 ⟨a6, n6, c6, rfl, hI6, hc6, hl6, rfl⟩
          have HI6 := hidn hI6
          have HL6 := hidn hl6
          clear hI6 hl6
          go_wp2_with fail
          refine (HBB.out w6 HB4.out).mono ?_
          rintro e w7 ⟨a7, n7, c7, rfl, hI7, hc7, hl7, rfl⟩
          have HI7 := hidn hI7
          have HL7 := hidn hl7
          clear hI7 hl7
          go_wp2_with fail
          refine ⟨⟨_, _, _, a6, a7, n6, n7, c6, c7, rfl, rfl, HST, HI6, HI7, hidn hc6, hidn hc7, HO9, HB4⟩, ?_⟩
          have h6 := HL6.out
          have h7 := HL7.out
          have h8 := HLT.out
          show n6 + n7 < n + 0
          exact sift_meas _ _ _ _ _ _ h6 h7 h8 (fun _ => hn0) (fun e => by cases e)
      | cons xb tb =>
        have HLE := hidn (least_any aa ba n ca m cb A' B' wr (HIA.out.below HB.out) (HIB.out.below HB.out) (.inl (by rw [hAe]; simp)))
        obtain ⟨hin, hla, hlb⟩ := leastS_spec (HS.out.riseA HRA.out) (HS.out.riseB HRB.out) ((.inl (by rw [hAe]; simp)) : A' ≠ [] ∨ B' ≠ [])
        have HST := hidn (HS.out.step HRA.out HRB.out _ hin hla hlb)
        obtain ⟨N, hN⟩ : ∃ N, N = leastS A' B' := ⟨_, rfl⟩
        rw [← hN] at HLE HST hin hla hlb
        obtain ⟨ia, hia⟩ : ∃ ia, headIs N A' = ia := ⟨_, rfl⟩
        obtain ⟨ib, hib⟩ : ∃ ib, headIs N B' = ib := ⟨_, rfl⟩
        have HBA := hidn (fun w9 (b9 : Below w2.heap.size w2 w9) => behind_any aa n ca A' ia w2 w9 HIA.out b9 HCA.out (fun e => by rw [hAe]; simp))
        have HBB := hidn (fun w9 (b9 : Below w2.heap.size w2 w9) => behind_any ba m cb B' ib w2 w9 HIB.out b9 HCB.out (fun e => by rw [hBe]; simp))
        rw [show (if ia then A'.tail else A') = behindS N A' from by rw [← hia]; exact behind_if N A'] at HBA
        rw [show (if ib then B'.tail else B') = behindS N B' from by rw [← hib]; exact behind_if N B'] at HBB
        rw [hia, hib] at HST
        obtain ⟨hn0, ga, oa, rfl, cA⟩ := (show Ils w2 aa n (xa :: ta) from by rw [← hAe]; exact HIA.out).headI
        have cA2 := (HB.out.cell (block_lt_of_cell cA)).trans cA
        have hni : (0 : Int) < (n : Int) := by omega
        have hxa : (xa == N) = ia := by rw [← hia, hAe]; rfl
        obtain ⟨hm0, gb, ob, rfl, cB⟩ := (show Ils w2 ba m (xb :: tb) from by rw [← hBe]; exact HIB.out).headI
        have cB2 := (HB.out.cell (block_lt_of_cell cB)).trans cB
        have hmi : (0 : Int) < (m : Int) := by omega
        have hxb : (xb == N) = ib := by rw [← hib, hBe]; rfl
        obtain ⟨r, hr⟩ : ∃ r, inFirstAloneS ia ib = r := ⟨_, rfl⟩
        have HKE := hidn (inFirstAlone_any ia ib)
        rw [hr] at HST HKE
        have HLT : Hid (ia = true ∨ ib = true) := hidn (by
          rcases hin with e | e
          · left; rw [← hia, head_mem (HS.out.riseA HRA.out) hla]; simpa using e
          · right; rw [← hib, head_mem (HS.out.riseB HRB.out) hlb]; simpa using e)
        obtain ⟨va, vc, e9⟩ : ∃ va vc, u7 = Value.slice va K.length vc := by
          rcases HO.out.2 with ⟨h1, h2⟩ | ⟨g, cp, cur, h1, _⟩
          · exact ⟨none, 0, by rw [h1, h2]⟩
          · exact ⟨_, _, h1⟩
        have HKL : Hid (K.length ≤ 100000) := hidn (by have := (HS.out.len HRA.out HRB.out); have := HLA.out; have := HLB.out; omega)
        clear hin hla hlb hN hia hib hr cA cB hAe hBe
        go_wp2_with fail
        refine HLE.out.mono ?_
        clear HLE
        rintro e w4 ⟨rfl, b4⟩
        have B4 := HB.out.trans (b4.mono HB.out.size)
        have O4 := own_skip HO.out b4
        have cA4 := (b4.cell (block_lt_of_cell cA2)).trans cA2
        have cB4 := (b4.cell (block_lt_of_cell cB2)).trans cB2
        clear cA2
        clear cB2
        have HB4 := hidn B4
        have HO4 := hidn O4
        clear B4 O4 b4 HO
        go_wp2_with fail
        refine (HKE.out w4).mono ?_
        rintro e w5 ⟨rfl, rfl⟩
        cases r with
        | true =>
          obtain ⟨wB, hwB⟩ : ∃ wB, wB = w5.alloc (.cells #[.int .i64 N] 3) := ⟨_, rfl⟩
          have bB : Below w5.heap.size w5 wB := by rw [hwB]; exact (Below.refl _ w5).alloc (Nat.le_refl _) _
          have qB : wB.heap[w5.heap.size]? = some (.cells #[.int .i64 N] 3 (0, 0)) := by rw [hwB]; exact heap_alloc_new w5 _
          have BB := HB4.out.trans (bB.mono HB4.out.size)
          have O2 := own_skip HO4.out bB
          obtain ⟨v3, w3, hrun, hown3, hgr3⟩ := appAny wB w2.heap.size 22 22 3 i1 z1 1 8 Tryd.underlying22 hi1 hy0 hy1 hy2 hyc (by decide) u7 K.length (ivs K) O2 BB.size (some ⟨w5.heap.size, 0, none⟩) 1 1 [.int .i64 N] rfl (fun e => by cases e) (fun x hx j u hu => by
            cases hx
            rw [add_none, Nat.zero_add, cell_of_row _ _ _ _ _ _ qB]
            simpa using hu) (fun u hu => by
            simp at hu
            rw [hu]
            rfl) (by have := HKL.out; unfold maxLen; omega) (by have := HKL.out; omega)
          have HB3 := hidn (BB.grown hgr3 BB.size (fun k hk => (O2.lt k hk).1))
          have HO3 : Hid (w3.ownsRow w2.heap.size 3 1 v3 (K ++ [N]).length (ivs (K ++ [N]))) := hidn (by
            rw [ivs_append, List.length_append]
            exact hown3)
          have HRUN := hidn hrun
          have HWB := hidn hwB
          subst e9
          clear hrun hown3 hgr3 O2 bB qB hwB BB HO4
          go_wp2_with (at_builtin; rw [← HWB.out]; refine wpList_app_runA rfl _ _ 22 22 rfl rfl _ _ _ rfl rfl HRUN.out ?_; clear HRUN)
          refine (HBA.out w3 HB3.out).mono ?_
          rintro e w6 ⟨a6, n6, c6, rfl, hI6, hc6, hl6, rfl⟩
          have HI6 := hidn hI6
          have HL6 := hidn hl6
          clear hI6 hl6
          go_wp2_with fail
          refine (HBB.out w6 HB3.out).mono ?_
          rintro e w7 ⟨a7, n7, c7, rfl, hI7, hc7, hl7, rfl⟩
          have HI7 := hidn hI7
          have HL7 := hidn hl7
          clear hI7 hl7
          go_wp2_with fail
          refine ⟨⟨_, _, _, a6, a7, n6, n7, c6, c7, rfl, rfl, HST, HI6, HI7, hidn hc6, hidn hc7, HO3, HB3⟩, ?_⟩
          have h6 := HL6.out
          have h7 := HL7.out
          have h8 := HLT.out
          show n6 + n7 < n + m
          exact sift_meas _ _ _ _ _ _ h6 h7 h8 (fun _ => hn0) (fun _ => hm0)
        | false =>
          have HO9 := HO4
          subst e9
          go_wp2_with fail
          refine (HBA.out w5 HB4.out).mono ?_
          rintro e w6 ⟨a6, n6, c6, rfl, hI6, hc6, hl6, rfl⟩
          have HI6 := hidn hI6
          have HL6 := hidn hl6
          clear hI6 hl6
          go_wp2_with fail
          refine (HBB.out w6 HB4.out).mono ?_
          rintro e w7 ⟨a7, n7, c7, rfl, hI7, hc7, hl7, rfl⟩
          have HI7 := hidn hI7
          have HL7 := hidn hl7
          clear hI7 hl7
          go_wp2_with fail
          refine ⟨⟨_, _, _, a6, a7, n6, n7, c6, c7, rfl, rfl, HST, HI6, HI7, hidn hc6, hidn hc7, HO9, HB4⟩, ?_⟩
          have h6 := HL6.out
          have h7 := HL7.out
          have h8 := HLT.out
          show n6 + n7 < n + m
          exact sift_meas _ _ _ _ _ _ h6 h7 h8 (fun _ => hn0) (fun _ => hm0)

theorem ixMinus_any (a b : Option Addr) (la ca lb cb : Nat) (l1 l2 : List Int) (w : World) (h1 : Ils w a la l1) (h2 : Ils w b lb l2) (hm1 : la ≤ 1000) (hm2 : lb ≤ 1000) :
    Calls Tryd.prog 4 #[.slice a la ca, .slice b lb cb] w (SiftP inFirstAloneS l1 l2 w) := by
  have H := hidn (sift_inFirstAlone a b la ca lb cb l1 l2 w h1 h2 hm1 hm2)
  clear h1 h2
  go_enter Tryd.func4, Tryd.ntmps4
  go_wp2_with fail
  refine H.out.mono ?_
  rintro e w1 ⟨L, v, rfl, ho, hL, hl, hb⟩
  have HO := hidn ho
  have HL := hidn hL
  have HN := hidn hl
  have HB := hidn hb
  clear ho hL hl hb
  go_wp2_with fail
  go_ret
  exact ⟨L, v, rfl, HO.out, HL.out, HN.out, HB.out⟩

end Go.Proofs.YtiffbbcgailmnaaDoor

namespace Go.Proofs.YtiffbbcgailmnaaDoor
open Go.RowKit Go.Joins
set_option linter.unusedVariables false

set_option maxHeartbeats 2000000 in
set_option maxRecDepth 100000 in
theorem ixEqual_same (a a' : Option Addr) (len cap cap' : Nat) (l : List Int) (w : World) (h : Ils w a len l) (h' : Ils w a' len l) :
    Calls Tryd.prog 6 #[.slice a len cap, .slice a' len cap'] w fun e w' => e = .returned (.bool true) ∧ Below w.heap.size w w' := by
  have hlen := hidn h.1
  have hlm := h.2.1
  unfold maxLen at hlm
  have hn : ((len : Int) != (len : Int)) = false := by simp
  go_enter Tryd.func6, Tryd.ntmps6
  go_wp2_with fail
  go_loopw [13] (fun iv wr => ∃ (k : Nat), k ≤ len ∧ iv = .int .i64 (k : Int) ∧ Below w.heap.size w wr) (fun iv _ => len - (intOf iv).toNat)
  case atStart => exact ⟨0, Nat.zero_le _, rfl, Below.refl _ _⟩
  case round =>
    obtain ⟨k, hk, rfl, hb⟩ := hrel
    by_cases hlt : k < len
    · have hlt2 : (k : Int) < (len : Int) := by omega
      obtain ⟨d, hd⟩ : ∃ d, l[k]? = some d := ⟨_, List.getElem?_eq_getElem (by rw [hlen.out]; exact hlt)⟩
      obtain ⟨b, off, rfl, c0⟩ := (h.below hb).at hd
      obtain ⟨b', off', rfl, c1⟩ := (h'.below hb).at hd
      have hdd : (d != d) = false := by simp
      have bd : Below w.heap.size w wr.drew := hb.drew
      clear hd
      go_wp2_with fail
      go_region
      go_wp2_with fail
      exact ⟨⟨k + 1, by omega, by simp, bd⟩, by simp [intOf]; omega⟩
    · have hlt2 : ¬ (k : Int) < (len : Int) := by omega
      go_wp2_with fail
      exact bodyPost_ret (v := .bool true) (by simp [results, Tryd.results6, go_sem]) rfl ⟨rfl, hb⟩


def ListP (P : Int → Prop) (N : Nat) (w : World) (e : Ending) (w' : World) : Prop :=
  ∃ (L : List Int) (va : Option Addr) (vc : Nat), e = .returned (.slice va L.length vc) ∧ Ils w' va L.length L ∧ (Rises L ∧ (∀ x, x ∈ L ↔ P x)) ∧ L.length ≤ N ∧ Below w.heap.size w w'

theorem ils_ofI {w : World} {base : Nat} {v : Value} {l : List Int} (h : w.ownsRow base 3 1 v l.length (ivs l)) : ∃ a c, v = .slice a l.length c ∧ Ils w a l.length l := by
  obtain ⟨a, c, h1, h2, _⟩ := ils_of_own h
  exact ⟨a, c, h1, h2⟩

theorem list_of {f : Bool → Bool → Bool} {P : Int → Prop} {a b : List Int} {w w' : World} {e : Ending} {N : Nat} (h : SiftP f a b w e w') (hN : a.length + b.length ≤ N) (hP : ∀ x, ((x ∈ a ∨ x ∈ b) ∧ f (decide (x ∈ a)) (decide (x ∈ b)) = true) ↔ P x) : ListP P N w e w' := by
  obtain ⟨L, v, rfl, ho, ⟨hr, hm⟩, hl, hb⟩ := h
  obtain ⟨va, vc, rfl, hI⟩ := ils_ofI ho
  exact ⟨L, va, vc, rfl, hI, ⟨hr, fun x => (hm x).trans (hP x)⟩, by omega, hb⟩

theorem ixUnion_p (a b : Option Addr) (la ca lb cb N : Nat) (l1 l2 : List Int) (w : World) (h1 : Ils w a la l1) (h2 : Ils w b lb l2) (hm1 : la ≤ 1000) (hm2 : lb ≤ 1000) (hN : la + lb ≤ N) :
    Calls Tryd.prog 7 #[.slice a la ca, .slice b lb cb] w (ListP (fun x => x ∈ l1 ∨ x ∈ l2) N w) :=
  (ixUnion_any a b la ca lb cb l1 l2 w h1 h2 hm1 hm2).mono fun e w' h => list_of h (by rw [h1.1, h2.1]; exact hN) (fun x => by
    by_cases e1 : x ∈ l1 <;> by_cases e2 : x ∈ l2 <;> simp [inEitherS, e1, e2])

theorem ixMeet_p (a b : Option Addr) (la ca lb cb N : Nat) (l1 l2 : List Int) (w : World) (h1 : Ils w a la l1) (h2 : Ils w b lb l2) (hm1 : la ≤ 1000) (hm2 : lb ≤ 1000) (hN : la + lb ≤ N) :
    Calls Tryd.prog 5 #[.slice a la ca, .slice b lb cb] w (ListP (fun x => x ∈ l1 ∧ x ∈ l2) N w) :=
  (ixMeet_any a b la ca lb cb l1 l2 w h1 h2 hm1 hm2).mono fun e w' h => list_of h (by rw [h1.1, h2.1]; exact hN) (fun x => by
    by_cases e1 : x ∈ l1 <;> by_cases e2 : x ∈ l2 <;> simp [inBothS, e1, e2])

theorem ixMinus_p (a b : Option Addr) (la ca lb cb N : Nat) (l1 l2 : List Int) (w : World) (h1 : Ils w a la l1) (h2 : Ils w b lb l2) (hm1 : la ≤ 1000) (hm2 : lb ≤ 1000) (hN : la + lb ≤ N) :
    Calls Tryd.prog 4 #[.slice a la ca, .slice b lb cb] w (ListP (fun x => x ∈ l1 ∧ x ∉ l2) N w) :=
  (ixMinus_any a b la ca lb cb l1 l2 w h1 h2 hm1 hm2).mono fun e w' h => list_of h (by rw [h1.1, h2.1]; exact hN) (fun x => by
    by_cases e1 : x ∈ l1 <;> by_cases e2 : x ∈ l2 <;> simp [inFirstAloneS, e1, e2])

end Go.Proofs.YtiffbbcgailmnaaDoor
