/- Spots: scrub.rising. -/
import Derived.Test.YtidlogeeophogaaDoorSpJ
namespace Go.Proofs.YtidlogeeophogaaDoor.Sp
open Go.RowKit Go.Joins Go.Lib
set_option linter.unusedVariables false
set_option linter.unusedSimpArgs false

set_option maxHeartbeats 1000000 in
set_option maxRecDepth 100000 in
theorem len64_zeroS (w : World) : Calls Tryd.prog 91 #[.int .u64 0] w fun e w' => e = .returned (.int .i64 0) ∧ Below w.heap.size w w' := by
  go_enter Tryd.func91, Tryd.ntmps91
  go_wp2_with fail
  go_ret
  exact ⟨by kernel_rfl, Below.refl _ _⟩

set_option maxHeartbeats 1000000 in
set_option maxRecDepth 100000 in
theorem blen_zeroS (w : World) : Calls Tryd.prog 60 #[.int .u64 0] w fun e w' => e = .returned (.int .i64 0) ∧ Below w.heap.size w w' := by
  go_enter Tryd.func60, Tryd.ntmps60
  go_wp2_with fail
  refine (len64_zeroS _).mono ?_
  rintro e w1 ⟨rfl, hb⟩
  go_wp2_with fail
  go_ret
  exact ⟨rfl, hb⟩

set_option maxHeartbeats 1000000 in
set_option maxRecDepth 100000 in
theorem ins_zeroS (f : Value) (w : World) : Calls Tryd.prog 82 #[.slice none 0 0, .int .i64 0, .int .i64 0, f] w fun e w' => e = .returned (.tuple #[]) ∧ Below w.heap.size w w' := by
  go_enter Tryd.func82, Tryd.ntmps82
  go_wp2_with fail
  go_loopw [8] (fun av wr => av = .int .i64 1 ∧ Below w.heap.size w wr) (fun _ _ => 0)
  case atStart => exact ⟨rfl, Below.refl _ _⟩
  case round =>
    obtain ⟨rfl, hb⟩ := hrel
    go_wp2_with fail
    go_end0
    exact ⟨rfl, hb⟩

set_option maxHeartbeats 1000000 in
set_option maxRecDepth 100000 in
theorem pdq_zeroS (f : Value) (w : World) : Calls Tryd.prog 59 #[.slice none 0 0, .int .i64 0, .int .i64 0, .int .i64 0, f] w fun e w' => e = .returned (.tuple #[]) ∧ Below w.heap.size w w' := by
  go_enter Tryd.func59, Tryd.ntmps59
  go_wp2_with fail
  go_loopw [1, 2] (fun av bv wr => av = .int .i64 0 ∧ bv = .int .i64 0 ∧ Below w.heap.size w wr) (fun _ _ _ => 0)
  case atStart => exact ⟨rfl, rfl, Below.refl _ _⟩
  case round =>
    obtain ⟨rfl, rfl, hb⟩ := hrel
    go_wp2_with fail
    refine (ins_zeroS f _).mono ?_
    rintro e w1 ⟨rfl, hb1⟩
    go_wp2_with fail
    exact bodyPost_ret (results_none rfl _ _ _) rfl ⟨rfl, hb.trans (hb1.mono hb.size)⟩

set_option maxHeartbeats 1000000 in
set_option maxRecDepth 100000 in
theorem sortf_zeroS (f : Value) (w : World) : Calls Tryd.prog 35 #[.slice none 0 0, f] w fun e w' => e = .returned (.tuple #[]) ∧ Below w.heap.size w w' := by
  go_enter Tryd.func35, Tryd.ntmps35
  go_wp2_with fail
  refine (blen_zeroS _).mono ?_
  rintro e w1 ⟨rfl, hb1⟩
  go_wp2_with fail
  refine (pdq_zeroS f _).mono ?_
  rintro e w2 ⟨rfl, hb2⟩
  go_wp2_with fail
  go_end0
  exact ⟨rfl, hb1.trans (hb2.mono hb1.size)⟩

theorem sort_ownS (B n : Nat) (v : Value) (l : List Spt) (w : World) (hB : B ≤ w.heap.size) (hn : n ≤ 1000000) (ho : w.ownsRow B 25 2 v n (fvs l)) :
    Calls Tryd.prog 35 #[v, .func (.func 36) #[] #[]] w fun e w' => e = .returned (.tuple #[]) ∧ ∃ l' : List Spt, l'.Perm l ∧ SrtS l' ∧ w'.ownsRow B 25 2 v n (fvs l') ∧ Below B w w' := by
  have hl := ho.1
  rw [fvs_length] at hl
  rcases ho.2 with ⟨rfl, rfl⟩ | ⟨g, cap, cur, rfl, hBg, _⟩
  · obtain rfl : l = [] := List.length_eq_zero_iff.1 (by omega)
    refine (sortf_zeroS _ w).mono ?_
    rintro e w' ⟨rfl, hb⟩
    exact ⟨rfl, [], List.Perm.refl _, List.Pairwise.nil, World.ownsRow_nil _ _ _ _, hb.mono hB⟩
  · refine (sortS_any B g n cap l w hn ho).mono ?_
    rintro e w' ⟨rfl, l', h1, h2, h3, h4⟩
    exact ⟨rfl, l', h1, h2, h3, h4.below hB hBg⟩

set_option maxHeartbeats 1000000 in
set_option maxRecDepth 100000 in
theorem compact_zeroS (w : World) : Calls Tryd.prog 37 #[.slice none 0 0] w fun e w' => e = .returned (.slice none 0 0) ∧ Below w.heap.size w w' := by
  go_enter Tryd.func37, Tryd.ntmps37
  go_wp2_with fail
  go_ret
  exact ⟨rfl, Below.refl _ _⟩

/-- A list that rises, with just these members, in memory of one's own. -/
def RisP (M : Spt → Prop) (most : Nat) (w : World) (e : Ending) (w' : World) : Prop :=
  ∃ (v : Value) (L : List Spt), e = .returned v ∧ RiseS L ∧ (∀ x, x ∈ L ↔ M x) ∧ L.length ≤ most ∧ w'.ownsRow w.heap.size 25 2 v L.length (fvs L) ∧ Below w.heap.size w w'

theorem compact_ownS (B n : Nat) (v : Value) (l : List Spt) (w : World) (hB : B ≤ w.heap.size) (hn : n ≤ 1000) (hs : SrtS l) (ho : w.ownsRow B 25 2 v n (fvs l)) :
    Calls Tryd.prog 37 #[v] w fun e w' => ∃ (v' : Value) (L : List Spt), e = .returned v' ∧ RiseS L ∧ (∀ x, x ∈ L ↔ x ∈ l) ∧ L.length ≤ n ∧ w'.ownsRow B 25 2 v' L.length (fvs L) ∧ Below B w w' := by
  have hl := ho.1
  rw [fvs_length] at hl
  rcases ho.2 with ⟨rfl, rfl⟩ | ⟨g, cap, cur, rfl, hBg, _⟩
  · obtain rfl : l = [] := List.length_eq_zero_iff.1 (by omega)
    refine (compact_zeroS w).mono ?_
    rintro e w' ⟨rfl, hb⟩
    exact ⟨_, [], rfl, List.Pairwise.nil, fun x => Iff.rfl, Nat.le_refl _, World.ownsRow_nil _ _ _ _, hb.mono hB⟩
  · refine (compact_any B g n cap l w hn ho).mono ?_
    rintro e w' ⟨k, rfl, hk, h3, h4⟩
    obtain ⟨c1, c2⟩ := compact_rise (n := n) (by omega) hs n (Nat.le_refl _)
    rw [List.take_of_length_le (by omega)] at c2
    have h5 := h3.1
    rw [fvs_length] at h5
    obtain rfl : (compactUpTo l.toArray n).length = k := by omega
    exact ⟨_, _, rfl, c1, c2, hk, h3, h4.below hB hBg⟩

set_option maxHeartbeats 2000000 in
set_option maxRecDepth 100000 in
theorem rising_any (a : Option Addr) (len cap : Nat) (l : List Spt) (w : World) (h : Fls w a len l) (hm : len ≤ 1000) (hn : a = none → cap = 0) :
    Calls Tryd.prog 15 #[.slice a len cap] w (RisP (· ∈ l) len w) := by
  have HC := hidn (sclone_any a len cap l w h hm hn)
  clear h
  go_enter Tryd.func15, Tryd.ntmps15
  go_wp2_with fail
  refine HC.out.mono ?_
  rintro e w1 ⟨v, rfl, ho, hb⟩
  have HS := hidn (sort_ownS w.heap.size len v l w1 hb.size (by omega) ho)
  have HB := hidn hb
  clear ho hb HC
  go_wp2_with fail
  refine HS.out.mono ?_
  rintro e w2 ⟨rfl, l', hp, hs, ho2, hb2⟩
  have HB2 := hidn (HB.out.trans hb2)
  have HP := hidn hp
  have HK := hidn (compact_ownS w.heap.size len v l' w2 HB2.out.size hm hs ho2)
  clear ho2 hb2 hp hs HS
  go_wp2_with fail
  refine HK.out.mono ?_
  rintro e w3 ⟨v3, L, rfl, hr, hx, hle, ho3, hb3⟩
  have HB3 := hidn (HB2.out.trans hb3)
  have HX : Hid (∀ x, x ∈ L ↔ x ∈ l) := hidn (fun x => (hx x).trans HP.out.mem_iff)
  have HR := hidn hr
  have HO3 := hidn ho3
  clear hb3 hx hr ho3 HK
  go_wp2_with fail
  go_ret
  exact ⟨v3, L, rfl, HR.out, HX.out, hle, HO3.out, HB3.out⟩
end Go.Proofs.YtidlogeeophogaaDoor.Sp
