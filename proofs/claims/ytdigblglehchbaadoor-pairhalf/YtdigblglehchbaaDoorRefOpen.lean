/- The walk of the document's Open. -/
import Derived.Test.YtdigblglehchbaaDoorFramesLaw
namespace Go.Proofs.YtdigblglehchbaaDoor
open Go.RowKit
set_option linter.unusedVariables false

set_option maxHeartbeats 1000000 in
theorem refOpen_short (s : ByteArray) (i : Int) (a : Option Addr) (len cap : Nat) (w : World) (hl : len ≠ 128) :
    Calls Tryd.prog 25 #[.slice a len cap, .string s, .int .i64 i] w fun e w' => e = .returned (.tuple #[.slice none 0 0, .int .i64 0, .int .i64 40]) ∧ Below w.heap.size w w' := by
  have h1 : ((len : Int) != 128) = true := bne_iff_ne.2 (by omega)
  go_enter Tryd.func25, Tryd.ntmps25
  go_wp2
  go_ret3
  exact ⟨rfl, Below.refl _ _⟩

set_option maxHeartbeats 1000000 in
theorem refOpen_long (s : ByteArray) (i : Int) (b off cap ln : Nat) (zs : List Nat) (w : World) (hB : Bs w (some ⟨b, off, none⟩) 128 zs) (hcap : 128 ≤ cap) (HL : Hid (ln = zs.getD 17 0)) (hln : 106 < ln) :
    Calls Tryd.prog 25 #[.slice (some ⟨b, off, none⟩) 128 cap, .string s, .int .i64 i] w fun e w' => e = .returned (.tuple #[.slice none 0 0, .int .i64 0, .int .i64 40]) ∧ Below w.heap.size w w' := by
  have h17 := hB.at 17 (by omega)
  rw [← HL.out] at h17
  have h1 : (106 : Int) < (ln : Int) := by omega
  go_enter Tryd.func25, Tryd.ntmps25
  go_wp2
  go_ret3
  exact ⟨rfl, Below.refl _ _⟩

set_option maxHeartbeats 1000000 in
theorem refOpen_gen (s : ByteArray) (i : Int) (b off cap ln n : Nat) (zs z9 : List Nat) (w : World) (hB : Bs w (some ⟨b, off, none⟩) 128 zs) (hcap : 128 ≤ cap) (HL : Hid (ln = zs.getD 17 0)) (hln : ln ≤ 106)
    (H9 : Hid (z9 = (zs.drop 9).take 8)) (HN : Hid (n = getB 0 z9)) (hn : 4611686018427387904 < n) :
    Calls Tryd.prog 25 #[.slice (some ⟨b, off, none⟩) 128 cap, .string s, .int .i64 i] w fun e w' => e = .returned (.tuple #[.slice none 0 0, .int .i64 0, .int .i64 40]) ∧ Below w.heap.size w w' := by
  have h17 := hB.at 17 (by omega)
  rw [← HL.out] at h17
  have h9 := hB.part 9 8 (by omega)
  rw [← H9.out] at h9
  have h1 : ¬ ((106 : Int) < (ln : Int)) := by omega
  have h2 : (4611686018427387904 : Int) < (n : Int) := by omega
  go_enter Tryd.func25, Tryd.ntmps25
  go_wp2_with fail
  refine (refGet_some b (off + 9) 8 (cap - 9) z9 _ h9.2.2.1 h9.1.symm (by omega) (by omega) (fun j hj => h9.at j hj)).mono ?_
  rw [← HN.out]
  rintro e w1 ⟨rfl, rfl⟩
  go_wp2
  go_ret3
  exact ⟨rfl, Below.refl _ _⟩

theorem own_bs {w : World} {base n : Nat} {v : Value} {l : List Nat} (h : Hid (w.ownsRow base 5 1 v n (vb l))) (hz : ∀ x ∈ l, x < 256) : ∃ a c, v = .slice a n c ∧ Bs w a n l ∧ (a = none → c = 0) := by
  obtain ⟨a, c, rfl, hB⟩ := bs_of_own h.out hz
  refine ⟨a, c, rfl, hB, ?_⟩
  rintro rfl
  rcases h.out.2 with ⟨h1, _⟩ | ⟨g, cap, cur, hv, _⟩
  · simp only [Value.slice.injEq] at h1; exact h1.2.2
  · cases hv

set_option maxHeartbeats 1000000 in
theorem refOpen_cannot (s : ByteArray) (i : Int) (b off cap ln n m : Nat) (zs z9 pp : List Nat) (w : World) (hB : Bs w (some ⟨b, off, none⟩) 128 zs) (hcap : 128 ≤ cap) (hsm : s.size ≤ maxLen) (HL : Hid (ln = zs.getD 17 0)) (hln : ln ≤ 106)
    (H9 : Hid (z9 = (zs.drop 9).take 8)) (HN : Hid (n = getB 0 z9)) (hn : n ≤ 4611686018427387904) (HM : Hid (m = 18 + ln)) (HP : Hid (pp = (zs.drop 18).take ln)) (hc : canB i n ln = false) :
    Calls Tryd.prog 25 #[.slice (some ⟨b, off, none⟩) 128 cap, .string s, .int .i64 i] w fun e w' => e = .returned (.tuple #[.slice none 0 0, .int .i64 0, .int .i64 40]) ∧ Below w.heap.size w w' := by
  have h17 := hB.at 17 (by omega)
  rw [← HL.out] at h17
  have h17' := Lib.cell?_alloc_some (.cells #[] 5) h17
  have h9 := hB.part 9 8 (by omega)
  rw [← H9.out] at h9
  have h1 : ¬ ((106 : Int) < (ln : Int)) := by omega
  have h2 : decide ((4611686018427387904 : Int) < (n : Int)) = false := by simp; omega
  have hpp := hB.part 18 ln (by omega)
  rw [← HP.out] at hpp
  have hwl : IntKind.i64.wrap (ln : Int) = (ln : Int) := by rw [IntKind.wrap_i64]; omega
  have hwn : IntKind.i64.wrap (n : Int) = (n : Int) := by rw [IntKind.wrap_i64]; omega
  have hwm : IntKind.i64.wrap (18 + (ln : Int)) = (m : Int) := by rw [IntKind.wrap_i64, HM.out]; omega
  have hm1 : 18 ≤ m := by rw [HM.out]; omega
  have hm2 : m ≤ cap := by rw [HM.out]; omega
  have hm3 : m - 18 = ln := by rw [HM.out]; omega
  go_enter Tryd.func25, Tryd.ntmps25
  go_wp2_with fail
  refine (refGet_some b (off + 9) 8 (cap - 9) z9 _ h9.2.2.1 h9.1.symm (by omega) (by omega) (fun j hj => h9.at j hj)).mono ?_
  rw [← HN.out]
  rintro e w1 ⟨rfl, rfl⟩
  clear h9
  have hb1 : Below w1.heap.size w1 (w1.alloc (.cells #[] 5)) := (Below.refl _ _).alloc (Nat.le_refl _) _
  have hown1 : (w1.alloc (.cells #[] 5)).ownsRow w1.heap.size 5 1 (.slice (some ⟨w1.heap.size, 0, none⟩) 0 0) 0 (vb []) := World.ownsRow_lit (base := w1.heap.size) (e := 5) (size := 1) w1 #[] 0 (Nat.le_refl _) (Nat.zero_le _) rfl
  have hpp1 := hpp.below hb1
  have hzp := hpp.2.2.1
  have hadd : 0 + ln = ln := Nat.zero_add ln
  have hlb : ln ≤ 100000 := by omega
  have HAP : Hid (pp = [] ++ pp) := hid rfl
  go_wp2_with (at_builtin; refine wpList_app rfl _ _ rfl w1.heap.size w1 _ 0 [] rfl hown1 _ ln (cap - 18) pp rfl (nil_some _ _) hpp1 ln pp hadd HAP hlb (le_alloc (Nat.le_refl _) _) hb1 ?_; intro v2 w2 hown2 hb2; obtain ⟨a2, c2, rfl, hB2, hnil2⟩ := own_bs hown2 hzp)
  refine (refFrame_no s i n a2 ln c2 _ hc).mono ?_
  rintro e w3 ⟨rfl, hb3⟩
  go_wp2
  go_ret3
  exact ⟨rfl, hb2.trans (hb3.mono hb2.size)⟩
set_option maxHeartbeats 1000000 in
set_option maxRecDepth 100000 in
theorem refOpen_can (s : ByteArray) (i : Int) (b off cap ln n m : Nat) (zs z9 pp : List Nat) (w : World) (hB : Bs w (some ⟨b, off, none⟩) 128 zs) (hcap : 128 ≤ cap) (hsm : s.size ≤ maxLen) (HL : Hid (ln = zs.getD 17 0)) (hln : ln ≤ 106)
    (H9 : Hid (z9 = (zs.drop 9).take 8)) (HN : Hid (n = getB 0 z9)) (hn : n ≤ 4611686018427387904) (HM : Hid (m = 18 + ln)) (HP : Hid (pp = (zs.drop 18).take ln)) (j : Nat) (HJ : Hid (i = j)) (hj2 : j ≤ 2147483647) (fz : List Nat) (HF : Hid (fz = frameB (nums s) j n pp)) (eq : Bool) (HE : Hid (eq = decide (zs = fz))) :
    Calls Tryd.prog 25 #[.slice (some ⟨b, off, none⟩) 128 cap, .string s, .int .i64 i] w fun e w' => Below w.heap.size w w' ∧
      if eq = true then ∃ v, e = .returned (.tuple #[v, .int .i64 n, .int .i64 0]) ∧ w'.ownsRow w.heap.size 5 1 v ln (vb pp) else e = .returned (.tuple #[.slice none 0 0, .int .i64 0, .int .i64 40]) := by
  have h17 := hB.at 17 (by omega)
  rw [← HL.out] at h17
  have h17' := Lib.cell?_alloc_some (.cells #[] 5) h17
  have h9 := hB.part 9 8 (by omega)
  rw [← H9.out] at h9
  have h1 : ¬ ((106 : Int) < (ln : Int)) := by omega
  have h2 : decide ((4611686018427387904 : Int) < (n : Int)) = false := by simp; omega
  have hpp := hB.part 18 ln (by omega)
  rw [← HP.out] at hpp
  have hwl : IntKind.i64.wrap (ln : Int) = (ln : Int) := by rw [IntKind.wrap_i64]; omega
  have hwn : IntKind.i64.wrap (n : Int) = (n : Int) := by rw [IntKind.wrap_i64]; omega
  have hwm : IntKind.i64.wrap (18 + (ln : Int)) = (m : Int) := by rw [IntKind.wrap_i64, HM.out]; omega
  have hm1 : 18 ≤ m := by rw [HM.out]; omega
  have hm2 : m ≤ cap := by rw [HM.out]; omega
  have hm3 : m - 18 = ln := by rw [HM.out]; omega
  go_enter Tryd.func25, Tryd.ntmps25
  go_wp2_with fail
  refine (refGet_some b (off + 9) 8 (cap - 9) z9 _ h9.2.2.1 h9.1.symm (by omega) (by omega) (fun j hj => h9.at j hj)).mono ?_
  rw [← HN.out]
  rintro e w1 ⟨rfl, rfl⟩
  clear h9
  have hb1 : Below w1.heap.size w1 (w1.alloc (.cells #[] 5)) := (Below.refl _ _).alloc (Nat.le_refl _) _
  have hown1 : (w1.alloc (.cells #[] 5)).ownsRow w1.heap.size 5 1 (.slice (some ⟨w1.heap.size, 0, none⟩) 0 0) 0 (vb []) := World.ownsRow_lit (base := w1.heap.size) (e := 5) (size := 1) w1 #[] 0 (Nat.le_refl _) (Nat.zero_le _) rfl
  have hpp1 := hpp.below hb1
  have hzp := hpp.2.2.1
  have hadd : 0 + ln = ln := Nat.zero_add ln
  have hlb : ln ≤ 100000 := by omega
  have HAP : Hid (pp = [] ++ pp) := hid rfl
  go_wp2_with (at_builtin; refine wpList_app rfl _ _ rfl w1.heap.size w1 _ 0 [] rfl hown1 _ ln (cap - 18) pp rfl (nil_some _ _) hpp1 ln pp hadd HAP hlb (le_alloc (Nat.le_refl _) _) hb1 ?_; intro v2 w2 hown2 hb2; obtain ⟨a2, c2, rfl, hB2, hnil2⟩ := own_bs hown2 hzp)
  refine (refFrame_bs s i n j n HJ.out rfl a2 ln c2 pp _ hB2 hnil2 hsm hj2 hn hln fz HF).mono ?_
  rintro e w3 ⟨a3, c3, rfl, hB3, hb3⟩
  have hb13 : Below w1.heap.size w1 w3 := hb2.trans (hb3.mono hb2.size)
  have hown3 : Hid (w3.ownsRow w1.heap.size 5 1 (.slice a2 ln c2) ln (vb pp)) := hid (own_of_below hown2.out hb3)
  have hs1 := hB3.str (cap := c3)
  have hs2 := (hB.below hb13).str (cap := cap)
  have hz : ((strB fz).toList == (strB zs).toList) = eq := by
    rw [HE.out, Bool.eq_iff_iff, beq_iff_eq, strB_inj hB3.2.2.1 hB.2.2.1, decide_eq_true_iff]
    exact eq_comm
  generalize strB fz = st1 at *
  generalize strB zs = st2 at *
  cases eq with
  | false =>
    go_wp2
    go_ret3
    exact ⟨hb13, rfl⟩
  | true =>
    go_wp2
    go_ret3
    exact ⟨hb13, _, rfl, hown3.out⟩

theorem refOpen_any (s : ByteArray) (i : Int) (a : Option Addr) (len cap : Nat) (zs : List Nat) (w : World) (hB : Bs w a len zs) (hcap : len ≤ cap) (hsm : s.size ≤ maxLen) :
    Calls Tryd.prog 25 #[.slice a len cap, .string s, .int .i64 i] w fun e w' => Below w.heap.size w w' ∧ opened (openB zs (nums s) i) w.heap.size e w' := by
  by_cases hl : len = 128
  · subst hl
    obtain ⟨b, off, rfl, _, _⟩ := hB.pos (by omega)
    have none_of : ∀ {e w'}, e = Ending.returned (.tuple #[.slice none 0 0, .int .i64 0, .int .i64 40]) → openB zs (nums s) i = none → opened (openB zs (nums s) i) w.heap.size e w' := by
      intro e w' he ho
      rw [ho]; exact he
    by_cases hln : zs.getD 17 0 ≤ 106
    · by_cases hn : getB 0 ((zs.drop 9).take 8) ≤ 4611686018427387904
      · cases hc : canB i (getB 0 ((zs.drop 9).take 8) : Nat) (zs.getD 17 0) with
        | false =>
          refine (refOpen_cannot s i b off cap _ _ _ zs _ _ w hB hcap hsm (hid rfl) hln (hid rfl) (hid rfl) hn (hid rfl) (hid rfl) hc).mono ?_
          rintro e w' ⟨he, hb⟩
          refine ⟨hb, none_of he ?_⟩
          unfold openB
          rw [if_neg]
          rintro ⟨_, h2, h3, h4, h5, _⟩
          exact of_decide_eq_false hc ⟨h4, h5, by omega, by omega, h3⟩
        | true =>
          obtain ⟨c1, c2, c3, c4, c5⟩ := of_decide_eq_true hc
          obtain ⟨j, rfl⟩ := Int.eq_ofNat_of_zero_le c1
          refine (refOpen_can s j b off cap _ _ _ zs _ _ w hB hcap hsm (hid rfl) hln (hid rfl) (hid rfl) hn (hid rfl) (hid rfl) j (hid rfl) (by omega) _ (hid rfl) _ (hid rfl)).mono ?_
          rintro e w' ⟨hb, he⟩
          refine ⟨hb, ?_⟩
          have hl2 : ((zs.drop 18).take (zs.getD 17 0)).length = zs.getD 17 0 := by
            simp only [List.length_take, List.length_drop, hB.1]; omega
          by_cases hz : zs = frameB (nums s) j (getB 0 ((zs.drop 9).take 8)) ((zs.drop 18).take (zs.getD 17 0))
          · rw [if_pos (decide_eq_true hz)] at he
            have : openB zs (nums s) (j : Int) = some ((zs.drop 18).take (zs.getD 17 0), getB 0 ((zs.drop 9).take 8)) := by
              unfold openB
              rw [if_pos ⟨hB.1, by omega, c5, by omega, c2, by simpa using hz⟩]
            rw [this]
            obtain ⟨v, he, hown⟩ := he
            refine ⟨v, he, ?_⟩
            rw [hl2]; exact hown
          · rw [if_neg (by simpa using hz)] at he
            refine none_of he ?_
            unfold openB
            rw [if_neg]
            rintro ⟨_, _, _, _, _, h6⟩
            exact hz (by simpa using h6)
      · refine (refOpen_gen s i b off cap _ _ zs _ w hB hcap (hid rfl) hln (hid rfl) (hid rfl) (by omega)).mono ?_
        rintro e w' ⟨he, hb⟩
        refine ⟨hb, none_of he ?_⟩
        unfold openB
        rw [if_neg]
        rintro ⟨_, h2, _⟩
        omega
    · refine (refOpen_long s i b off cap _ zs w hB hcap (hid rfl) (by omega)).mono ?_
      rintro e w' ⟨he, hb⟩
      refine ⟨hb, none_of he ?_⟩
      unfold openB
      rw [if_neg]
      rintro ⟨_, _, h3, _⟩
      omega
  · refine (refOpen_short s i a len cap w hl).mono ?_
    rintro e w' ⟨he, hb⟩
    refine ⟨hb, ?_⟩
    have : openB zs (nums s) i = none := by
      unfold openB
      rw [if_neg]
      rintro ⟨h1, _⟩
      exact hl (by rw [← hB.1]; exact h1)
    rw [this]
    exact he
end Go.Proofs.YtdigblglehchbaaDoor
