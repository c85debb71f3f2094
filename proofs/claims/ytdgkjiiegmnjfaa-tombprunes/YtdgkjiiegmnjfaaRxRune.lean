/- strings.ContainsRune over a text of ASCII. -/
import Derived.Test.YtdgkjiiegmnjfaaRxDef
import Derived.Test.YtdgkjiiegmnjfaaRxShelf
import Derived.Laws.Runes
import Derived.WalkMore
namespace Go.Proofs.Ytdgkjiiegmnjfaa
open Go.RowKit Go.Joins
set_option linter.unusedVariables false

def ptsOf (s : ByteArray) : List Int := s.data.toList.map fun b => (b.toNat : Int)
def AscS (s : ByteArray) : Prop := ∀ b ∈ s.data.toList, b.toNat < 128

set_option maxHeartbeats 2000000 in
set_option maxRecDepth 100000 in
theorem valid_any (r : Int) (w : World) (h0 : 0 ≤ r) (h1 : r < 2147483648) :
    Calls Try.prog 63 #[.int .i32 r] w fun e w' => (∃ b, e = .returned (.bool b)) ∧ w' = w := by
  by_cases a1 : r < 55296
  · go_enter Try.func63, Try.ntmps63
    go_wp2
    exact bodyPost_ret (v := .bool true) (by simp [results, Try.results63, go_sem]) rfl ⟨by simp, rfl⟩
  · by_cases a2 : 57343 < r
    · by_cases a3 : r ≤ 1114111
      · go_enter Try.func63, Try.ntmps63
        go_wp2
        exact bodyPost_ret (v := .bool true) (by simp [results, Try.results63, go_sem]) rfl ⟨by simp, rfl⟩
      · go_enter Try.func63, Try.ntmps63
        go_wp2
        exact bodyPost_ret (v := .bool false) (by simp [results, Try.results63, go_sem]) rfl ⟨by simp, rfl⟩
    · go_enter Try.func63, Try.ntmps63
      go_wp2
      exact bodyPost_ret (v := .bool false) (by simp [results, Try.results63, go_sem]) rfl ⟨by simp, rfl⟩

theorem enc_high (r : Int) (h0 : 128 ≤ r) : 2 ≤ (Utf8.encode r).size ∧ (Utf8.encode r).size ≤ 4 ∧ ∃ b : UInt8, (Utf8.encode r).data.toList[(Utf8.encode r).size - 1]? = some b ∧ 128 ≤ b.toNat := by
  unfold Utf8.encode
  simp only
  generalize hc : (if Utf8.valid r = true then r.toNat else Utf8.runeError) = c
  have h1 : ¬ c < 128 := by
    rw [← hc]
    split
    · omega
    · simp [Utf8.runeError]
  have hb : 128 ≤ (UInt8.ofNat (128 + c % 64)).toNat := by
    rw [UInt8.toNat_ofNat']
    omega
  rw [if_neg h1]
  repeat' split
  all_goals exact ⟨by simp [ByteArray.size], by simp [ByteArray.size], _, by simp [ByteArray.size]; rfl, by simpa using hb⟩
theorem idx_none (l : List UInt8) (b : UInt8) (h : ∀ c ∈ l, c ≠ b) : Lib.indexByte l b = -1 := by
  induction l with
  | nil => rfl
  | cons c r ih =>
    have hc := h c (by simp)
    have h1 := ih (fun x hx => h x (by simp [hx]))
    simp only [Lib.indexByte, h1]
    have h2 : (c == b) = false := beq_eq_false_iff_ne.2 hc
    simp [h2]
theorem idx_mem (l : List UInt8) (b : UInt8) : decide (0 ≤ Lib.indexByte l b) = decide (b ∈ l) := by
  induction l with
  | nil => rfl
  | cons c r ih =>
    simp only [Lib.indexByte]
    by_cases h : c = b
    · subst h; simp
    · have h2 : (c == b) = false := beq_eq_false_iff_ne.2 h
      have h3 : ¬ b = c := fun e => h e.symm
      simp only [h2, Bool.false_eq_true, if_false, List.mem_cons, h3, false_or]
      rw [← ih]
      have h4 : Lib.indexByte r b = -1 ∨ 0 ≤ Lib.indexByte r b := by
        clear ih
        induction r with
        | nil => exact .inl rfl
        | cons d t ih2 =>
          simp only [Lib.indexByte]
          split
          · simp
          · split
            · simp
            · right; rcases ih2 with h | h <;> simp_all <;> omega
      rcases h4 with h4 | h4
      · rw [h4]; rfl
      · have h5 : (Lib.indexByte r b == -1) = false := beq_eq_false_iff_ne.2 (by omega)
        simp only [h5, Bool.false_eq_true, if_false]
        rw [decide_eq_true h4, decide_eq_true (by omega)]

theorem strIdx (s : ByteArray) (c : Int) (w : World) (h : Lib.indexByte s.data.toList c.toNat.toUInt8 = -1) :
    Calls Try.prog 62 #[.string s, .int .u8 c] w fun e w' => e = .returned (.int .i64 (-1)) ∧ w' = w := by
  refine (Try.strings_IndexByte s c w).mono ?_
  rintro e w1 ⟨rfl, rfl⟩
  exact ⟨by rw [h], rfl⟩

set_option maxHeartbeats 4000000 in
set_option maxRecDepth 100000 in
theorem index_high (s : ByteArray) (r : Int) (w : World) (hs : s.size ≤ 1000) (ha : AscS s) (h0 : 128 ≤ r) (h1 : r < 2147483648) (h2 : r ≠ 65533) :
    Calls Try.prog 60 #[.string s, .int .i32 r] w fun e w' => e = .returned (.int .i64 (-1)) ∧ Below w.heap.size w w' := by
  have g0 : (0 : Int) ≤ r := by omega
  have g1 : ¬ r < 128 := by omega
  have g2 : (r == 65533) = false := beq_eq_false_iff_ne.2 h2
  go_enter Try.func60, Try.ntmps60
  go_wp2_with fail
  refine (valid_any r _ g0 h1).mono ?_
  rintro e w1 ⟨⟨b, rfl⟩, rfl⟩
  cases b with
  | false =>
    go_wp2
    exact bodyPost_ret (v := .int .i64 (-1)) (by simp [results, Try.results60, go_sem]) rfl ⟨rfl, Below.refl _ _⟩
  | true =>
    obtain ⟨z1, z2, b, z3, z4⟩ := enc_high r h0
    obtain ⟨E, hE⟩ : ∃ E, Utf8.encode r = E := ⟨_, rfl⟩
    rw [hE] at z1 z2 z3
    obtain ⟨q, hq⟩ : ∃ q, E.size = q + 1 := ⟨E.size - 1, by omega⟩
    have hz : (E.size : Int) - 1 = (q : Int) := by omega
    have hqE : q < E.size := by omega
    have hqE2 : (q : Int) < (E.size : Int) := by omega
    have hget : (E[q]'hqE).toNat = b.toNat := by
      have e : E.size - 1 = q := by omega
      rw [e] at z3
      have h3 := (List.getElem?_eq_some_iff.1 z3).2
      rw [← h3]
      rfl
    clear z3 hq
    go_wp2
    go_step3
    go_wp2
    go_loopw [9] (fun i wr => i = .int .i64 (q : Int) ∧ wr = w1) (fun _ _ => 0)
    case atStart => exact ⟨rfl, rfl⟩
    case round =>
      obtain ⟨rfl, rfl⟩ := hrel
      by_cases hlt : q < s.size
      · have hlt2 : (q : Int) < (s.size : Int) := by omega
        have hb1 : (s[q]'hlt).toNat < 128 := by
          refine ha _ ?_
          exact Array.getElem_mem_toList ..
        have hne : (((s[q]'hlt).toNat : Int) != (b.toNat : Int)) = true := by
          simp; omega
        have hne2 : (((s[q]'hlt).toNat : Int) == (b.toNat : Int)) = false := by
          simp; omega
        have hk : (q : Int) + 1 = ((q + 1 : Nat) : Int) := by omega
        obtain ⟨k, hk2⟩ : ∃ k, k = q + 1 := ⟨_, rfl⟩
        have hk3 : (q : Int) + 1 = (k : Int) := by omega
        have hks : k ≤ s.size := by omega
        have hks2 : (k : Int) ≤ (s.size : Int) := by omega
        have hidx : Lib.indexByte (s.extract k s.size).data.toList ((b.toNat : Int)).toNat.toUInt8 = -1 := by
          refine idx_none _ _ (fun c hc he => ?_)
          have hcm : c ∈ s.data.toList := by
            rw [Lib.extract_data] at hc
            exact List.mem_of_mem_drop (List.mem_of_mem_take hc)
          have h5 := ha c hcm
          rw [he] at h5
          simp at h5
          omega
        have hkw : IntKind.i64.wrap (k : Int) = (k : Int) := wrap_small _ (by omega) (by omega)
        clear hk hk2
        go_wp2
        go_step3
        go_wp2
        go_quiet (fail)
        obtain ⟨w2, hw2⟩ : ∃ w2, w2 = wr.drewN nq := ⟨_, rfl⟩
        rw [← hw2]
        have HW2 : Hid (Below wr.heap.size wr w2) := hidn (by rw [hw2]; exact below_drewN (Below.refl _ _) _)
        clear hw2
        go_wp2
        go_quiet ((go_at_call 62; exact Calls.quiet_of_same (strIdx _ _ _ hidx)))
        go_wp2
        rw [Exit.noGoto_ret]
        go_wp2
        rw [Exit.noGoto_ret]
        go_wp2
        exact bodyPost_ret (v := .int .i64 (-1)) (by simp [results, Try.results60, go_sem]) rfl ⟨rfl, below_drewN HW2.out _⟩
      · have hlt2 : ¬ (q : Int) < (s.size : Int) := by omega
        go_wp2
        exact bodyPost_ret (v := .int .i64 (-1)) (by simp [results, Try.results60, go_sem]) rfl ⟨rfl, Below.refl _ _⟩

set_option maxHeartbeats 2000000 in
theorem contains_any (s : ByteArray) (r : Int) (w : World) (hs : s.size ≤ 1000) (ha : AscS s) (h0 : 0 ≤ r) (h1 : r < 2147483648) (h2 : r ≠ 65533) :
    Calls Try.prog 55 #[.string s, .int .i32 r] w fun e w' => e = .returned (.bool ((ptsOf s).contains r)) ∧ Below w.heap.size w w' := by
  by_cases h3 : r < 128
  · refine (Try.strings_ContainsRune_ascii s r w h0 h3).mono ?_
    rintro e w1 ⟨rfl, rfl⟩
    refine ⟨?_, Below.refl _ _⟩
    rw [idx_mem]
    congr 2
    rw [Bool.eq_iff_iff]
    simp only [decide_eq_true_eq, List.contains_iff_mem, ptsOf, List.mem_map]
    constructor
    · intro h
      exact ⟨_, h, by simp; omega⟩
    · rintro ⟨b, hb, rfl⟩
      simpa using hb
  · have hn : (ptsOf s).contains r = false := by
      rw [Bool.eq_false_iff]
      intro h
      simp only [List.contains_iff_mem, ptsOf, List.mem_map] at h
      obtain ⟨b, hb, rfl⟩ := h
      have := ha b hb
      omega
    rw [hn]
    have h4 : 128 ≤ r := by omega
    go_enter Try.func55, Try.ntmps55
    go_wp2_with fail
    refine (index_high s r _ hs ha h4 h1 h2).mono ?_
    rintro e w1 ⟨rfl, b1⟩
    go_wp2
    exact bodyPost_ret (v := .bool false) (by simp [results, Try.results55, go_sem]) rfl ⟨rfl, b1⟩
end Go.Proofs.Ytdgkjiiegmnjfaa
