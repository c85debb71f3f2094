/- dryrotplain.SameFooters of equal footers. -/
import Derived.Test.YteammmhlpinhfaaPlJ
namespace Go.Proofs.Yteammmhlpinhfaa
open Go.RowKit Go.Joins
set_option linter.unusedVariables false

set_option maxHeartbeats 1000000 in
set_option maxRecDepth 100000 in
theorem equalFunc_same (a b : Option Addr) (n ca cb : Nat) (l m : List Fo) (w : World) (hl : Fls w a n l) (hm : Fls w b n m) (he : l.map Fo.pv = m.map Fo.pv) (hn : n ≤ 100000) :
    Calls Try.prog 22 #[.slice a n ca, .slice b n cb, .func (.func 23) #[] #[]] w fun e w' => e = .returned (.bool true) ∧ Below w.heap.size w w' := by
  have hlen := hidn hl.1
  have hmen := hidn hm.1
  have HE := hidn he
  have hnn : ((n : Int) != (n : Int)) = false := by simp
  clear he
  go_enter Try.func22, Try.ntmps22
  go_wp2_with fail
  go_loopw [17] (fun iv wr => ∃ (k : Nat), k ≤ n ∧ iv = .int .i64 (k : Int) ∧ Below w.heap.size w wr) (fun iv _ => n - (intOf iv).toNat)
  case atStart => exact ⟨0, Nat.zero_le _, rfl, Below.refl _ _⟩
  case round =>
    obtain ⟨k, hk, rfl, hb⟩ := hrel
    by_cases hlt : k < n
    · have hlt2 : (k : Int) < (n : Int) := by omega
      obtain ⟨f, hf⟩ : ∃ f, l[k]? = some f := ⟨_, List.getElem?_eq_getElem (by rw [hlen.out]; exact hlt)⟩
      obtain ⟨g, hg⟩ : ∃ g, m[k]? = some g := ⟨_, List.getElem?_eq_getElem (by rw [hmen.out]; exact hlt)⟩
      have HPV : Hid (f.pv = g.pv) := hidn (by
        have h1 : (l.map Fo.pv)[k]? = some f.pv := by rw [List.getElem?_map, hf]; rfl
        rw [HE.out, List.getElem?_map, hg] at h1
        simpa using h1.symm)
      obtain ⟨b1, o1, rfl, hb1, c0, c1, c2, c3, c4, c5, c6, c7, hms⟩ := (hl.below hb).at hf
      obtain ⟨wA, hwA⟩ : ∃ wA, wA = wr.alloc (.cells #[.int .i64 f.nu, .int .i64 f.ge, .int .i64 f.lv, .int .i64 f.rk, .int .i64 f.mn, .int .i64 f.mx, .int .i64 f.bt, .slice f.pa f.pl f.pc] 37) := ⟨_, rfl⟩
      have bA : Below wr.heap.size wr wA := by rw [hwA]; exact (Below.refl _ wr).alloc (Nat.le_refl _) _
      have sA : wA.heap.size = wr.heap.size + 1 := by rw [hwA]; simp
      have BA := hb.trans (bA.mono hb.size)
      have qA : wA.heap[wr.heap.size]? = some (.cells #[.int .i64 f.nu, .int .i64 f.ge, .int .i64 f.lv, .int .i64 f.rk, .int .i64 f.mn, .int .i64 f.mx, .int .i64 f.bt, .slice f.pa f.pl f.pc] 37 (0, 0)) := by rw [hwA]; exact heap_alloc_new wr _
      obtain ⟨b2, o2, rfl, hb2, d0, d1, d2, d3, d4, d5, d6, d7, hmt⟩ := (hm.below hb).at hg
      obtain ⟨wB, hwB⟩ : ∃ wB, wB = wA.alloc (.cells #[.int .i64 g.nu, .int .i64 g.ge, .int .i64 g.lv, .int .i64 g.rk, .int .i64 g.mn, .int .i64 g.mx, .int .i64 g.bt, .slice g.pa g.pl g.pc] 37) := ⟨_, rfl⟩
      have bB : Below wA.heap.size wA wB := by rw [hwB]; exact (Below.refl _ wA).alloc (Nat.le_refl _) _
      have BB := BA.trans (bB.mono BA.size)
      have hIf := (hms.1.below bA).below bB
      have hIg := (hmt.1.below bA).below bB
      have HS := hidn (sameFooter_same f g wB HPV.out hIf hIg)
      have HW : Hid ((wr.alloc (.cells #[.int .i64 f.nu, .int .i64 f.ge, .int .i64 f.lv, .int .i64 f.rk, .int .i64 f.mn, .int .i64 f.mx, .int .i64 f.bt, .slice f.pa f.pl f.pc] 37)).alloc (.cells #[.int .i64 g.nu, .int .i64 g.ge, .int .i64 g.lv, .int .i64 g.rk, .int .i64 g.mn, .int .i64 g.mx, .int .i64 g.bt, .slice g.pa g.pl g.pc] 37) = wB) := hidn (by rw [hwB, hwA])
      clear hf hg hwA hwB qA sA hIf hIg hms hmt bA bB
      go_wp2_with fail
      rw [HW.out]
      refine HS.out.mono ?_
      rintro e w3 ⟨rfl, b3⟩
      have B3 := BB.trans (b3.mono BB.size)
      go_wp2_with fail
      exact ⟨⟨k + 1, by omega, by simp, B3⟩, by simp [intOf]; omega⟩
    · have hlt2 : ¬ (k : Int) < (n : Int) := by omega
      go_wp2_with fail
      exact bodyPost_ret (v := .bool true) (by simp [results, Try.results22, go_sem]) rfl ⟨rfl, hb⟩

theorem sameFooters_same (a b : Option Addr) (n ca cb : Nat) (l m : List Fo) (w : World) (hl : Fls w a n l) (hm : Fls w b n m) (he : l.map Fo.pv = m.map Fo.pv) (hn : n ≤ 100000) :
    Calls Try.prog 11 #[.slice a n ca, .slice b n cb] w fun e w' => e = .returned (.bool true) ∧ Below w.heap.size w w' := by
  have H := hidn (equalFunc_same a b n ca cb l m w hl hm he hn)
  clear hl hm he
  go_enter Try.func11, Try.ntmps11
  go_wp2_with fail
  refine H.out.mono ?_
  rintro e w3 ⟨rfl, b3⟩
  go_wp2_with fail
  exact bodyPost_ret (v := .bool true) (by simp [results, Try.results11, go_sem]) rfl ⟨rfl, b3⟩

end Go.Proofs.Yteammmhlpinhfaa
