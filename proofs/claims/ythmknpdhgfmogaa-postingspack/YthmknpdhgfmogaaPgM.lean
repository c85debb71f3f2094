/- postings: lists of numbers: Clone, Equal, append; the law's cut. -/
import Derived.Test.YthmknpdhgfmogaaPgL
import Derived.Lib.OwnBridge
import Derived.Lib.SlicesCompact
namespace Go.Proofs.Ythmknpdhgfmogaa
open Go.RowKit Go.Joins
set_option linter.unusedVariables false

theorem iInfo : ∃ i0 z, Try.prog.info? 3 = some i0 ∧ i0.zero = some z ∧ i0.size = 1 ∧ i0.bytes = 8 ∧ z.cells.size = 1 := by
  have h : (Try.prog.info? 3).map (fun i => (i.zero, i.size, i.bytes)) = some (some (.int .i64 0), 1, 8) := by kernel_rfl
  cases hi : Try.prog.info? 3 with
  | none => rw [hi] at h; cases h
  | some i0 =>
    rw [hi] at h
    simp only [Option.map_some, Option.some.injEq, Prod.mk.injEq] at h
    exact ⟨i0, _, rfl, h.1, h.2.1, h.2.2, rfl⟩

def ivs (l : List Int) : List Value := l.map (Value.int .i64)

theorem ivs_append (l m : List Int) : ivs (l ++ m) = ivs l ++ ivs m := by simp [ivs]

theorem ils_of_own {w : World} {base : Nat} {v : Value} {l : List Int} (h : w.ownsRow base 3 1 v l.length (ivs l)) : ∃ a c, v = .slice a l.length c ∧ Ils w a l.length l ∧ l.length ≤ c := by
  have h' := h
  rcases h.2 with ⟨rfl, h0⟩ | ⟨g, cap, cur, rfl, hg, hh, hnc, hcm, hcs, htk⟩
  · rw [h0]
    exact ⟨none, 0, rfl, ⟨h0, Nat.zero_le _, fun _ => rfl, fun x hx => by cases hx⟩, Nat.le_refl _⟩
  · refine ⟨_, cap, rfl, ⟨rfl, by omega, (fun h => by cases h), fun x hx j d hd => ?_⟩, by omega⟩
    cases hx
    have := h'.cells (g := g) rfl j (.int .i64 d) (by unfold ivs; rw [List.getElem?_map, hd]; rfl)
    simpa using this

theorem ivs_length' (l : List Int) : (ivs l).length = l.length := by simp [ivs]

set_option maxHeartbeats 300000 in
theorem ixClone_any (a : Option Addr) (len cap : Nat) (l : List Int) (w : World) (h : Ils w a len l) (hm : len * 8 ≤ 140737488355328) :
    Calls Try.prog 10 #[.slice a len cap] w fun e w' => ∃ v, e = .returned v ∧ w'.ownsRow w.heap.size 3 1 v len (ivs l) ∧ Below w.heap.size w w' := by
  obtain ⟨i0, z, hi, hz0, hz1, hz2, hzc⟩ := iInfo
  have heq := fun (wx : World) (aa : Option Addr) (n c : Nat) => Lib.run_eql_slice_nil (P := Try.prog) wx 22 3 aa n c 0 0 Try.underlying22
  cases a with
  | none =>
    have h0 := h.2.2.1 rfl
    subst h0
    obtain rfl : l = [] := List.length_eq_zero_iff.1 h.1
    go_enter Try.func10, Try.ntmps10
    go_wp2_with fail
    exact bodyPost_ret (v := .slice none 0 0) (by simp [results, Try.results10, go_sem]) rfl ⟨_, rfl, World.ownsRow_nil _ _ _ _, Below.refl _ _⟩
  | some x =>
    have hown := World.ownsRow_lit (base := w.heap.size) (e := 3) (size := 1) w #[] 0 (Nat.le_refl _) (Nat.zero_le _) rfl
    have HC : Hid (∀ (j : Nat) (u : Value), (ivs l)[j]? = some u → (w.alloc (.cells #[] 3)).cell? (x.add j) = some u) := hidn (fun j u hj => by
      unfold ivs at hj
      rw [List.getElem?_map] at hj
      cases hq : l[j]? with
      | none => rw [hq] at hj; cases hj
      | some y =>
        rw [hq] at hj
        cases hj
        exact Lib.cell?_alloc_some _ (h.2.2.2 x rfl j y hq))
    have H1 : Hid (∀ u ∈ ivs l, u.oneCell' = true) := hidn (fun u hu => by
      unfold ivs at hu
      obtain ⟨y, _, rfl⟩ := List.mem_map.1 hu
      rfl)
    have HL : Hid ((ivs l).length = len * 1) := hidn (by rw [ivs_length', h.1, Nat.mul_one])
    have hmx : 0 + len ≤ maxLen := by unfold maxLen; omega
    have hmb : (0 + len) * 8 ≤ 140737488355328 := by omega
    clear h hm
    go_enter Try.func10, Try.ntmps10
    go_wp2_with (at_builtin; refine wpList_append_own _ rfl _ _ 22 rfl w.heap.size 3 i0 z 1 8 Try.underlying22 hi hz0 hz1 hz2 hzc (by decide) _ 0 [] rfl hown x len cap (ivs l) rfl HL.out HC.out H1.out hmx hmb (by simp) ?_)
    intro v' w1 hown1 hgrow1 _
    clear hown
    go_wp2
    go_ret
    refine ⟨_, rfl, by simpa using hown1, ?_⟩
    refine ((Below.refl _ _).alloc (Nat.le_refl _) _).grown hgrow1 (by simp) ?_
    intro k hk
    simp [Value.ownBlock] at hk
    omega

set_option maxHeartbeats 2000000 in
set_option maxRecDepth 100000 in
theorem equal_same (a a' : Option Addr) (len cap cap' : Nat) (l : List Int) (w : World) (h : Ils w a len l) (h' : Ils w a' len l) :
    Calls Try.prog 17 #[.slice a len cap, .slice a' len cap'] w fun e w' => e = .returned (.bool true) ∧ Below w.heap.size w w' := by
  have hlen := hidn h.1
  have hlm := h.2.1
  unfold maxLen at hlm
  have hn : ((len : Int) != (len : Int)) = false := by simp
  go_enter Try.func17, Try.ntmps17
  go_wp2_with fail
  go_loopw [13] (fun iv wr => ∃ (k : Nat), k ≤ len ∧ iv = .int .i64 (k : Int) ∧ Below w.heap.size w wr) (fun iv _ => len - (intOf iv).toNat)
  case atStart => exact ⟨0, Nat.zero_le _, rfl, Below.refl _ _⟩
  case round =>
    obtain ⟨k, hk, rfl, hb⟩ := hrel
    by_cases hlt : k < len
    · have hlt2 : (k : Int) < (len : Int) := by omega
      obtain ⟨d, hd⟩ : ∃ d, l[k]? = some d := ⟨_, List.getElem?_eq_getElem (by rw [hlen.out]; exact hlt)⟩
      obtain ⟨b, off, rfl, c0⟩ := (h.below hb).at hd
      obtain ⟨b', off', rfl, c1⟩ := (h'.below hb).at hd
      have hdd : (d != d) = false := by simp
      have bd : Below w.heap.size w wr.drew := hb.drew
      clear hd
      go_wp2_with fail
      go_region
      go_wp2_with fail
      exact ⟨⟨k + 1, by omega, by simp, bd⟩, by simp [intOf]; omega⟩
    · have hlt2 : ¬ (k : Int) < (len : Int) := by omega
      go_wp2_with fail
      exact bodyPost_ret (v := .bool true) (by simp [results, Try.results17, go_sem]) rfl ⟨rfl, hb⟩

theorem ivN_ivs (l : List Nat) : ivN l = ivs (up l) := by unfold ivN ivs up; rw [List.map_map]; rfl

theorem appI {B : Nat} {v : Value} {l : List Int} {W : World} (h : W.ownsRow B 3 1 v l.length (ivs l)) (hB : B ≤ W.heap.size) (y : Int) (hn : l.length ≤ 100000000) :
    ∃ v' W', (Builtin.append_ #[22, 22] 22 #[v, .slice (some ⟨W.heap.size, 0, none⟩) 1 1]).run Try.prog (W.alloc (.cells #[.int .i64 y] 3)) = .ok v' W' ∧ W'.ownsRow B 3 1 v' (l ++ [y]).length (ivs (l ++ [y])) ∧ Below B W W' := by
  obtain ⟨i0, z, hi, hz0, hz1, hz2, hzc⟩ := iInfo
  have h1 := h.alloc (.cells #[.int .i64 y] 3)
  obtain ⟨v', W', hr, ho, hg⟩ := appAny (P := Try.prog) (W.alloc (.cells #[.int .i64 y] 3)) B 22 22 3 i0 z 1 8 Try.underlying22 hi hz0 hz1 hz2 hzc (by decide) v l.length (ivs l) h1 (by simp; omega) (some ⟨W.heap.size, 0, none⟩) 1 1 [.int .i64 y] rfl (fun e => by cases e) (fun x hx j u hj => by
    cases hx
    match j, hj with
    | 0, hj => simp at hj; subst hj; simp [Addr.add]) (fun u hu => by simp at hu; subst hu; rfl) (by unfold maxLen; omega) (by omega)
  refine ⟨v', W', hr, ?_, ?_⟩
  · rw [ivs_append, List.length_append]; exact ho
  · exact ((Below.refl B W).alloc hB _).grown hg (by simp; omega) (fun k hk => (h1.lt k hk).1)

theorem ils_take {w : World} {a : Option Addr} {len : Nat} {l : List Int} (h : Ils w a len l) (m : Nat) (hm : m ≤ len) : Ils w a m (l.take m) := h.take m hm

/-- The law's cut. -/
theorem cut25_any (a : Option Addr) (len cap m : Nat) (w : World) (hlc : len ≤ cap) (hm : m = min len 80) :
    Calls Try.prog 9 #[.slice a len cap] w fun e w' => e = .returned (.slice a m cap) ∧ w' = w := by
  have m1 : min (len : Int) 80 = (m : Int) := by omega
  have m2 : (if (80 : Int) < (len : Int) then (80 : Int) else (len : Int)) = (m : Int) := by split <;> omega
  have m3 : (if 80 < len then (80 : Int) else (len : Int)) = (m : Int) := by split <;> omega
  have m4 : (m : Int) ≤ (cap : Int) := by omega
  have m5 : m ≤ cap := by omega
  clear hm
  go_enter Try.func9, Try.ntmps9
  go_wp2_with fail
  go_ret
  exact ⟨rfl, rfl⟩
end Go.Proofs.Ythmknpdhgfmogaa
