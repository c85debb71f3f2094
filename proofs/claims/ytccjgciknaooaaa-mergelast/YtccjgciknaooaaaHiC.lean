/- merge: Open at any lists. -/
import Derived.Test.YtccjgciknaooaaaHhH
import Derived.Test.YtccjgciknaooaaaHiB
import Derived.Test.YtccjgciknaooaaaMgK
namespace Go.Proofs.Ytccjgciknaooaaa
open Go.RowKit Go.Joins
set_option linter.unusedVariables false

/-- Whether lists may not be merged. -/
def badM (l : List Rk) : Bool := decide (40 < l.length) || l.any fun r => !riseB r.zs

theorem badM_len {l : List Rk} (h : 40 < l.length) : badM l = true := by simp [badM, h]
theorem badM_at {l : List Rk} {k : Nat} {r : Rk} (h : l[k]? = some r) (hr : riseB r.zs = false) : badM l = true := by
  unfold badM
  rw [Bool.or_eq_true]
  refine .inr (List.any_eq_true.2 ⟨r, List.mem_of_getElem? h, by rw [hr]; rfl⟩)
theorem badM_no {l : List Rk} (h : ¬ 40 < l.length) (hr : ∀ (k : Nat) (r : Rk), l[k]? = some r → riseB r.zs = true) : badM l = false := by
  cases hb : badM l
  · rfl
  · unfold badM at hb
    rw [Bool.or_eq_true] at hb
    rcases hb with hb | hb
    · exact absurd (of_decide_eq_true hb) h
    · obtain ⟨r, hm, hq⟩ := List.any_eq_true.1 hb
      obtain ⟨i, hi, rfl⟩ := List.getElem_of_mem hm
      rw [hr i _ (List.getElem?_eq_getElem hi)] at hq
      cases hq
theorem badM_of {l : List Rk} (h : badM l = false) : ¬ 40 < l.length ∧ ∀ (k : Nat) (r : Rk), l[k]? = some r → riseB r.zs = true := by
  constructor
  · intro h1; rw [badM_len h1] at h; cases h
  · intro k r hk
    cases hr : riseB r.zs
    · rw [badM_at hk hr] at h; cases h
    · rfl

set_option maxHeartbeats 4000000 in
set_option maxRecDepth 100000 in
theorem canMerge_any (a : Option Addr) (len cap : Nat) (l : List Rk) (w : World) (h : Rks w a len l) (h1000 : len ≤ 1000) :
    Calls Try.prog 22 #[.slice a len cap] w fun e w' => e = .returned (.bool (!badM l)) ∧ Below w.heap.size w w' := by
  have HL := hidn h.1
  have H := hidn h
  clear h
  by_cases h40 : 40 < len
  · have n40 : (40 : Int) < (len : Int) := by omega
    have HBD := hidn (badM_len (l := l) (by rw [HL.out]; exact h40))
    go_enter Try.func22, Try.ntmps22
    go_wp2_with fail
    go_ret
    exact ⟨by rw [HBD.out]; rfl, Below.refl _ _⟩
  · have n40 : ¬ (40 : Int) < (len : Int) := by omega
    go_enter Try.func22, Try.ntmps22
    go_wp2_with fail
    go_loopw [10] (fun iv wr => ∃ k : Nat, k ≤ len ∧ iv = .int .i64 (k : Int) ∧ Hid (Below w.heap.size w wr) ∧ Hid (∀ (j : Nat) (r : Rk), j < k → l[j]? = some r → riseB r.zs = true)) (fun iv _ => len - (intOf iv).toNat)
    case atStart => exact ⟨0, Nat.zero_le _, rfl, hidn (Below.refl _ _), hidn (fun j r hj => by omega)⟩
    case round =>
      obtain ⟨k, hk, rfl, HB, HK⟩ := hrel
      by_cases hlt : k < len
      · have hlt2 : (k : Int) < (len : Int) := by omega
        obtain ⟨r, hr⟩ : ∃ r, l[k]? = some r := ⟨_, List.getElem?_eq_getElem (by rw [HL.out]; exact hlt)⟩
        obtain ⟨h1, h2, h3, h4⟩ := H.out.below HB.out
        obtain ⟨b, off, rfl, hc⟩ := h4 (by omega)
        obtain ⟨c0, c1⟩ := hc k r hr
        obtain ⟨hS, _⟩ := h3 k r hr
        have HR := hidn hr
        obtain ⟨rank, sa, sl, sc, zs⟩ := r
        simp only at c0 c1 hS
        obtain ⟨w1, hw1⟩ : ∃ w1, w1 = wr.alloc (.cells #[.int .i64 rank, .slice sa sl sc] 47) := ⟨_, rfl⟩
        have hb1 : Below wr.heap.size wr w1 := by rw [hw1]; exact (Below.refl _ wr).alloc (Nat.le_refl _) _
        have q1 : w1.heap[wr.heap.size]? = some (.cells #[.int .i64 rank, .slice sa sl sc] 47 (0, 0)) := by rw [hw1]; exact heap_alloc_new wr _
        have HRS := hidn (rise_any sa sl sc zs w1 (hS.below hb1))
        have HB1 := hidn (HB.out.trans (hb1.mono HB.out.size))
        have e1 : w1.cell? ⟨wr.heap.size, 1, none⟩ = some (.slice sa sl sc) := cell_of_row _ _ _ _ _ _ q1
        have HW1 := hidn hw1
        obtain ⟨rb, hrb⟩ : ∃ rb, rb = riseB zs := ⟨_, rfl⟩
        rw [← hrb] at HRS
        have HRB := hidn hrb
        clear h1 h2 h3 h4 hc hS hrb hr hw1 hb1 q1
        go_wp2_with fail
        rw [← HW1.out]
        refine HRS.out.mono ?_
        rintro e w2 ⟨rfl, b2⟩
        have HB2 := hidn (HB1.out.trans (b2.mono HB1.out.size))
        clear b2
        cases rb
        · have HBD := hidn (badM_at HR.out HRB.out.symm)
          go_wp2_with fail
          go_ret
          exact ⟨by rw [HBD.out]; rfl, HB2.out⟩
        · have HK2 : Hid (∀ (j : Nat) (r : Rk), j < k + 1 → l[j]? = some r → riseB r.zs = true) := hidn (fun j r hj hr => by
            by_cases he : j = k
            · subst he
              have h9 := HR.out
              rw [hr] at h9
              cases h9
              exact HRB.out.symm
            · exact HK.out j r (by omega) hr)
          go_wp2_with fail
          go_roundw
          case rel => exact ⟨k + 1, by omega, by first | rfl | simp, HB2, HK2⟩
          case measure => simp [intOf]; omega
      · obtain rfl : k = len := by omega
        have HBD := hidn (badM_no (l := l) (by rw [HL.out]; exact h40) (fun j r hr => HK.out j r (by have := (List.getElem?_eq_some_iff.1 hr).1; rw [HL.out] at this; exact this) hr))
        go_wp2_with fail
        go_ret
        exact ⟨by rw [HBD.out]; rfl, HB.out⟩

/-- The samples that are told. -/
def TellP (l : List Rk) (floor : Int) (G : List Gp) (T : List Sam) : Prop := UpS T ∧ ∀ y, y ∈ T ↔ (WinS l y ∧ floor ≤ y.t ∧ inB G y.t = false)

theorem TellP.same {l : List Rk} {floor : Int} {G : List Gp} {T U : List Sam} (h : TellP l floor G T) (k : TellP l floor G U) : T = U :=
  ups_ext T U h.1 k.1 (fun x => (h.2 x).trans (k.2 x).symm)

theorem tell_out {l : List Rk} {R : List Sam} (floor : Int) (G : List Gp) (hu : UpS R) (hw : ∀ y, y ∈ R ↔ WinS l y) : TellP l floor G (outL R floor G) := by
  refine ⟨hu.filter _, fun y => ?_⟩
  unfold outL
  rw [List.mem_filter, hw]
  simp

theorem win_ok {l : List Rk} {y : Sam} (h : WinS l y) (hz : ∀ (k : Nat) (r : Rk), l[k]? = some r → ∀ i, SamOK (samD r.zs i)) : SamOK y := by
  obtain ⟨p, x, i, hx, hi, hy, _⟩ := h
  rw [← hy]
  exact hz p x hx i

theorem samD_ok {l : List Sam} (h : ∀ s ∈ l, SamOK s) (i : Nat) : SamOK (samD l i) := by
  unfold samD
  rw [List.getD_eq_getElem?_getD]
  rcases Nat.lt_or_ge i l.length with h1 | h1
  · rw [List.getElem?_eq_getElem h1]; exact h _ (List.getElem_mem h1)
  · rw [List.getElem?_eq_none h1]; exact samOK_zero

theorem upZ_ups {R : List Sam} (h : UpS R) : UpZ R := fun i j hij hj => by
  have hd : ∀ i (hi : i < R.length), samD R i = R[i] := fun i hi => by
    unfold samD
    rw [List.getD_eq_getElem?_getD, List.getElem?_eq_getElem hi]
    rfl
  rw [hd i (by omega), hd j hj]
  exact List.pairwise_iff_getElem.1 h i j (by omega) hj hij

/-- What Open leaves. -/
def OpnP (l : List Rk) (floor : Int) (G : List Gp) (w : World) (e : Ending) (w' : World) : Prop :=
  (badM l = true ∧ e = .returned (.tuple #[.pointer none, .int .i64 1]) ∧ Below w.heap.size w w') ∨
  (badM l = false ∧ ∃ (b : Nat) (a : Option Addr) (c : Nat) (T : List Sam), e = .returned (.tuple #[.pointer (some ⟨b, 0, none⟩), .int .i64 0]) ∧ TellP l floor G T ∧ T.length ≤ totZ l ∧ (∀ i, SamOK (samD T i)) ∧ w.heap.size ≤ b ∧ CurB w' b (.slice a T.length c) ∧ Sm w' a T.length T ∧ T.length ≤ c ∧ (∀ k, a = some k → w.heap.size ≤ k.block) ∧ Below w.heap.size w w')

theorem own_base {w : World} {base e size n c : Nat} {a : Option Addr} {xs : List Value} (h : w.ownsRow base e size (.slice a n c) n xs) : ∀ k, a = some k → base ≤ k.block := by
  intro k hk
  rcases h.2 with ⟨h1, _⟩ | ⟨g', cap, cur, h1, hb, _⟩
  · cases h1; cases hk
  · cases h1; cases hk; exact hb

set_option maxHeartbeats 4000000 in
set_option maxRecDepth 100000 in
theorem open_any (a : Option Addr) (len cap : Nat) (l : List Rk) (floor : Int) (ga : Option Addr) (gl gc : Nat) (G : List Gp) (w : World) (h : Rks w a len l) (h1000 : len ≤ 1000) (hN : totZ l ≤ 100000) (hg : Gps w ga gl G) (hgl : gl ≤ 1000) (hgo : ∀ i, GpOK (gpD G i)) :
    Calls Try.prog 8 #[.slice a len cap, .int .i64 floor, .slice ga gl gc] w (OpnP l floor G w) := by
  have HC := hidn (canMerge_any a len cap l w h h1000)
  have H := hidn h
  have HG := hidn hg
  have HGO := hidn hgo
  obtain ⟨bd, hbd⟩ : ∃ bd, bd = badM l := ⟨_, rfl⟩
  rw [← hbd] at HC
  have HBD := hidn hbd.symm
  clear h hg hgo hbd
  go_enter Try.func8, Try.ntmps8
  go_wp2_with fail
  refine HC.out.mono ?_
  rintro e w1 ⟨rfl, b1⟩
  have HB1 := hidn b1
  clear b1 HC
  cases bd
  · obtain ⟨h40, hri⟩ := badM_of HBD.out
    have HM := hidn (merged_any a len cap l w1 (H.out.below HB1.out) (by rw [← H.out.1]; omega) (fun q z hq => upZ_of (hri q z hq)) hN)
    have HOKZ : Hid (∀ (k : Nat) (r : Rk), l[k]? = some r → ∀ i, SamOK (samD r.zs i)) := hidn (fun k r hk => (H.out.2.2.1 k r hk).1.2.2.1)
    clear h40 hri
    go_wp2_with fail
    refine HM.out.mono ?_
    rintro e w2 ⟨v2, R, rfl, hu, hw, hl, o2, b2⟩
    have hok : ∀ i, SamOK (samD R i) := samD_ok (fun s hs => win_ok ((hw s).1 hs) HOKZ.out)
    obtain ⟨va, ca, rfl, _, hsm⟩ := sm_of_own o2 hok
    have HB2 := hidn (HB1.out.trans (b2.mono HB1.out.size))
    have HO := hidn (outside_any va R.length ca R floor ga gl gc G w2 hsm (by omega) (upZ_ups hu) (HG.out.below HB2.out) hgl HGO.out)
    have HT := hidn (tell_out floor G hu hw)
    have HOKT : Hid (∀ i, SamOK (samD (outL R floor G) i)) := hidn (samD_ok (fun s hs => win_ok ((hw s).1 (List.mem_filter.1 hs).1) HOKZ.out))
    have HLT : Hid ((outL R floor G).length ≤ totZ l) := hidn (Nat.le_trans (outL_len R floor G) hl)
    clear b2 o2 HM hsm hu hw hl hok
    go_wp2_with fail
    refine HO.out.mono ?_
    rintro e w3 ⟨v3, rfl, o3, b3⟩
    have ho3 := o3
    obtain ⟨a3, c3, rfl, hc3, hsm3⟩ := sm_of_own o3 HOKT.out
    have HBA := hidn (own_base ho3)
    have HO3 := hidn hsm3
    have HC3 := hidn hc3
    have HB3 := hidn (HB2.out.trans (b3.mono HB2.out.size))
    clear o3 ho3 b3 HO hsm3 hc3
    go_wp2_with fail
    go_ret2
    exact .inr ⟨HBD.out, w3.heap.size, a3, c3, _, rfl, HT.out, HLT.out, HOKT.out, HB3.out.size, heap_alloc_new w3 _, HO3.out.below ((Below.refl _ w3).alloc (Nat.le_refl _) _), HC3.out, fun k hk => Nat.le_trans HB2.out.size (HBA.out k hk), HB3.out.alloc HB3.out.size _⟩
  · go_wp2_with fail
    go_ret2
    exact .inl ⟨HBD.out, rfl, HB1.out⟩
end Go.Proofs.Ytccjgciknaooaaa
