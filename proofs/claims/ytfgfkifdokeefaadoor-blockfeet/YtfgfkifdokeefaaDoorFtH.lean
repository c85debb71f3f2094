/- Footers: the same ones, and as their bytes; Decode of any bytes. -/
import Derived.Test.YtfgfkifdokeefaaDoorFtG
import Derived.Test.YtfgfkifdokeefaaDoorBytesEq
namespace Go.Proofs.YtfgfkifdokeefaaDoor
open Go.RowKit Go.Joins
set_option linter.unusedVariables false

def B63 (x : Int) : Prop := -9223372036854775808 ≤ x ∧ x ≤ 9223372036854775807

set_option maxHeartbeats 2000000 in
set_option maxRecDepth 100000 in
theorem sf_same (w : World) (nu ge lv rk mn mx bt : Int) (pa pa' : Option Addr) (pl pc pc' : Nat) (ps : List Int) (hf : Ils w pa pl ps) (hg : Ils w pa' pl ps) :
    Calls Tryd.prog 9 #[.agg #[.int .i64 nu, .int .i64 ge, .int .i64 lv, .int .i64 rk, .int .i64 mn, .int .i64 mx, .int .i64 bt, .slice pa pl pc], .agg #[.int .i64 nu, .int .i64 ge, .int .i64 lv, .int .i64 rk, .int .i64 mn, .int .i64 mx, .int .i64 bt, .slice pa' pl pc']] w fun e w' => e = .returned (.bool true) ∧ Below w.heap.size w w' := by
  obtain ⟨wA, hwA⟩ : ∃ wA, wA = (w.alloc (.cells #[.int .i64 nu, .int .i64 ge, .int .i64 lv, .int .i64 rk, .int .i64 mn, .int .i64 mx, .int .i64 bt, .slice pa pl pc] 24)).alloc (.cells #[.int .i64 nu, .int .i64 ge, .int .i64 lv, .int .i64 rk, .int .i64 mn, .int .i64 mx, .int .i64 bt, .slice pa' pl pc'] 24) := ⟨_, rfl⟩
  have bA : Below w.heap.size w wA := by rw [hwA]; exact ((Below.refl _ w).alloc (Nat.le_refl _) _).alloc (by simp) _
  have HE := hidn (equal_same pa pa' pl pc pc' ps wA (hf.below bA) (hg.below bA))
  have HWA := hidn hwA
  clear hwA
  go_enter Tryd.func9, Tryd.ntmps9
  go_wp2_with fail
  rw [← HWA.out]
  refine HE.out.mono ?_
  rintro e w1 ⟨rfl, b1⟩
  have B1 := bA.trans (b1.mono bA.size)
  go_wp2_with fail
  exact bodyPost_ret (v := .bool true) (by simp [results, Tryd.results9, go_sem]) rfl ⟨rfl, B1⟩

theorem ftB_mN (n g l r mn mx by' : Int) (ps : List Int) (j : Nat) (x : Int) (h : [n, g, l, r, mn, mx, by'][j]? = some x) (hb : B63 x) : mN (ftB n g l r mn mx by' ps) j = x := by
  unfold ftB
  rw [List.append_assoc]
  exact mN_words _ j x _ h hb.1 hb.2

theorem ftB_head (n g l r mn mx by' : Int) (ps : List Int) : (mW [n, g, l, r, mn, mx, by']).length = 56 := by
  rw [mW_length]
  rfl

theorem ftB_ftN (n g l r mn mx by' : Int) (ps : List Int) (hp : ps.length ≤ 3) : ftN (ftB n g l r mn mx by' ps) = ps.length := by
  unfold ftN ftB
  rw [List.getD_eq_getElem?_getD, List.append_assoc, List.getElem?_append_right (by rw [ftB_head n g l r mn mx by' ps]; omega), ftB_head n g l r mn mx by' ps]
  simp [putB]
  omega

theorem ftB_rest (n g l r mn mx by' : Int) (ps : List Int) : (ftB n g l r mn mx by' ps).drop 57 = mW ps := by
  unfold ftB
  rw [List.drop_left']
  rw [List.length_append, ftB_head n g l r mn mx by' ps, putB_length]

theorem mNs_words (ps : List Int) (hb : ∀ q ∈ ps, B63 q) : mNs (mW ps) ps.length = ps := by
  apply List.ext_getElem?
  intro j
  unfold mNs
  by_cases hj : j < ps.length
  · rw [List.getElem?_map, List.getElem?_range hj, List.getElem?_eq_getElem hj]
    have q := hb _ (List.getElem_mem hj)
    have := mN_words ps j ps[j] [] (List.getElem?_eq_getElem hj) q.1 q.2
    rw [List.append_nil] at this
    simp [this]
  · rw [List.getElem?_eq_none (by simp; omega), List.getElem?_eq_none (by omega)]

theorem ftB_can (n g l r mn mx by' : Int) (ps : List Int) (hp : ps.length ≤ 3) (hb : ∀ q ∈ [n, g, l, r, mn, mx, by'], B63 q) (hbp : ∀ q ∈ ps, B63 q) : ftCan (ftB n g l r mn mx by' ps) = bCan n g l r mn mx by' ps := by
  unfold ftCan
  rw [ftB_mN n g l r mn mx by' ps 0 n rfl (hb _ (by simp)), ftB_mN n g l r mn mx by' ps 1 g rfl (hb _ (by simp)), ftB_mN n g l r mn mx by' ps 2 l rfl (hb _ (by simp)), ftB_mN n g l r mn mx by' ps 3 r rfl (hb _ (by simp)), ftB_mN n g l r mn mx by' ps 4 mn rfl (hb _ (by simp)), ftB_mN n g l r mn mx by' ps 5 mx rfl (hb _ (by simp)), ftB_mN n g l r mn mx by' ps 6 by' rfl (hb _ (by simp)), ftB_rest, ftB_ftN n g l r mn mx by' ps hp, mNs_words ps hbp]

theorem ftB_lt (n g l r mn mx by' : Int) (ps : List Int) : ∀ x ∈ ftB n g l r mn mx by' ps, x < 256 := by
  intro x hx
  unfold ftB at hx
  rcases List.mem_append.1 hx with hx | hx
  · rcases List.mem_append.1 hx with hx | hx
    · exact mW_lt _ x hx
    · exact putB_lt 1 _ x hx
  · exact mW_lt _ x hx

/-- What Decode of any bytes answers. -/
def DecTot (w : World) (zs : List Nat) (len : Nat) (e : Ending) (w' : World) : Prop := (ftOK zs len = true → DecYes w zs e w') ∧ (ftOK zs len = false → DecNo w e w')

theorem ftOK_yes {zs : List Nat} {len : Nat} (h : 57 ≤ len ∧ len = 57 + 8 * ftN zs) : ftOK zs len = ftCan zs := by
  unfold ftOK
  rw [decide_eq_true h.1, decide_eq_true h.2]
  rfl

theorem ftOK_no {zs : List Nat} {len : Nat} (h : ¬ (57 ≤ len ∧ len = 57 + 8 * ftN zs)) : ftOK zs len = false := by
  unfold ftOK
  by_cases h1 : 57 ≤ len
  · rw [decide_eq_false (fun h2 => h ⟨h1, h2⟩), Bool.and_false, Bool.false_and]
  · rw [decide_eq_false h1, Bool.false_and, Bool.false_and]

theorem dec_tot (w : World) (a : Option Addr) (len cap : Nat) (zs : List Nat) (hB : Bs w a len zs) (hc : len ≤ cap) : Calls Tryd.prog 6 #[.slice a len cap] w (DecTot w zs len) := by
  by_cases h : 57 ≤ len ∧ len = 57 + 8 * ftN zs
  · obtain ⟨b, off, rfl, _, _⟩ := hB.pos (by omega)
    refine (dec_any w b off len cap zs hB hc h.1 h.2).mono fun e w' ⟨h1, h2⟩ => ⟨fun hk => h1 ?_, fun hk => h2 ?_⟩
    · rw [← ftOK_yes h]; exact hk
    · rw [← ftOK_yes h]; exact hk
  · refine (dec_no w a len cap zs hB hc h).mono fun e w' h1 => ⟨fun hk => ?_, fun hk => h1⟩
    rw [ftOK_no h] at hk
    cases hk

theorem rdec_tot (w : World) (a : Option Addr) (len cap : Nat) (zs : List Nat) (hB : Bs w a len zs) (hc : len ≤ cap) : Calls Tryd.prog 7 #[.slice a len cap] w (DecTot w zs len) := by
  by_cases h : 57 ≤ len ∧ len = 57 + 8 * ftN zs
  · obtain ⟨b, off, rfl, _, _⟩ := hB.pos (by omega)
    refine (rdec_any w b off len cap zs hB hc h.1 h.2).mono fun e w' ⟨h1, h2⟩ => ⟨fun hk => h1 ?_, fun hk => h2 ?_⟩
    · rw [← ftOK_yes h]; exact hk
    · rw [← ftOK_yes h]; exact hk
  · refine (rdec_no w a len cap zs hB hc h).mono fun e w' h1 => ⟨fun hk => ?_, fun hk => h1⟩
    rw [ftOK_no h] at hk
    cases hk

/-- What both Decodes tell of the bytes: the fields and the parents. -/
def ftV (zs : List Nat) (len : Nat) (j : Nat) : Int := if ftOK zs len then mN zs j else 0

def ftP (zs : List Nat) (len : Nat) : Nat := if ftOK zs len then ftN zs else 0

def ftE (zs : List Nat) (len : Nat) : Int := if ftOK zs len then 0 else 5

def ftL (zs : List Nat) (len : Nat) : List Int := if ftOK zs len then mNs (zs.drop 57) (ftN zs) else []

theorem tot_one {w : World} {zs : List Nat} {len : Nat} {e : Ending} {w' : World} (h : DecTot w zs len e w') : ∃ a c, e = .returned (.tuple #[.agg #[.int .i64 (ftV zs len 0), .int .i64 (ftV zs len 1), .int .i64 (ftV zs len 2), .int .i64 (ftV zs len 3), .int .i64 (ftV zs len 4), .int .i64 (ftV zs len 5), .int .i64 (ftV zs len 6), .slice a (ftP zs len) c], .int .i64 (ftE zs len)]) ∧ Ils w' a (ftP zs len) (ftL zs len) ∧ Below w.heap.size w w' := by
  unfold ftV ftP ftE ftL
  by_cases hk : ftOK zs len = true
  · obtain ⟨a, c, he, hI, hb⟩ := h.1 hk
    refine ⟨a, c, ?_, ?_, hb⟩
    · simp only [hk, if_true]; exact he
    · simp only [hk, if_true]; exact hI
  · have hk2 : ftOK zs len = false := by simpa using hk
    obtain ⟨he, hb⟩ := h.2 hk2
    refine ⟨none, 0, ?_, ?_, hb⟩
    · simp only [hk2]; exact he
    · simp only [hk2]; exact ⟨rfl, Nat.zero_le _, fun _ => rfl, fun x hx => by cases hx⟩
end Go.Proofs.YtfgfkifdokeefaaDoor
