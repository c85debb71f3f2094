/- merge: whether a time is among samples (the law's closure); what one list, and a list with a lesser one, tell. -/
import Derived.Test.YtccjgciknaooaaaHjN
namespace Go.Proofs.Ytccjgciknaooaaa
open Go.RowKit Go.Joins
set_option linter.unusedVariables false

def hasT (l : List Sam) (t : Int) : Bool := l.any fun s => decide (s.t = t)

theorem hasT_yes {l : List Sam} {t : Int} (i : Nat) (hi : i < l.length) (h : (samD l i).t = t) : hasT l t = true := by
  unfold hasT
  rw [List.any_eq_true]
  refine ⟨samD l i, ?_, decide_eq_true h⟩
  rw [samD_at hi]
  exact List.getElem_mem hi

theorem hasT_no {l : List Sam} {t : Int} (h : ∀ i, i < l.length → (samD l i).t ≠ t) : hasT l t = false := by
  cases hc : hasT l t
  · rfl
  · unfold hasT at hc
    obtain ⟨s, hs, ht⟩ := List.any_eq_true.1 hc
    obtain ⟨i, hi, rfl⟩ := List.getElem_of_mem hs
    have := h i hi
    rw [samD_at hi] at this
    exact absurd (of_decide_eq_true ht) this

theorem hasT_mem {l : List Sam} {t : Int} (h : hasT l t = true) : ∃ i, i < l.length ∧ (samD l i).t = t := by
  unfold hasT at h
  obtain ⟨s, hs, ht⟩ := List.any_eq_true.1 h
  obtain ⟨i, hi, rfl⟩ := List.getElem_of_mem hs
  exact ⟨i, hi, by rw [samD_at hi]; exact of_decide_eq_true ht⟩

set_option maxHeartbeats 2000000 in
set_option maxRecDepth 100000 in
theorem same_t (bf : Nat) (ts tt : Int) (vs : Nat) (w : World) (hf : w.cell? ⟨bf, 0, none⟩ = some (.int .i64 tt)) :
    Calls Try.prog 17 #[.agg #[.int .i64 ts, .int .u64 (vs : Int)], .pointer (some ⟨bf, 0, none⟩)] w fun e w' => e = .returned (.bool (decide (ts = tt))) ∧ Below w.heap.size w w' := by
  have d0 : (w.alloc (.cells #[.int .i64 ts, .int .u64 (vs : Int)] 36)).cell? ⟨bf, 0, none⟩ = some (.int .i64 tt) := Lib.cell?_alloc_some _ hf
  go_enter Try.func17, Try.ntmps17
  go_wp2_with fail
  go_ret
  exact ⟨rfl, (Below.refl _ w).alloc (Nat.le_refl _) _⟩

set_option maxHeartbeats 4000000 in
set_option maxRecDepth 100000 in
theorem indexT (bf : Nat) (a : Option Addr) (len cap : Nat) (l : List Sam) (tt : Int) (w : World) (hf : w.cell? ⟨bf, 0, none⟩ = some (.int .i64 tt)) (h : Sm w a len l) :
    Calls Try.prog 14 #[.slice a len cap, .func (.func 17) #[] #[.pointer (some ⟨bf, 0, none⟩)]] w fun e w' => ∃ q : Int, e = .returned (.int .i64 q) ∧ decide (0 ≤ q) = hasT l tt ∧ Below w.heap.size w w' := by
  have HL := hidn h.1
  have H := hidn h
  have HCF := hidn hf
  have hbf := block_lt_of_cell hf
  have hlm := h.2.1
  unfold maxLen at hlm
  clear h hf
  go_enter Try.func14, Try.ntmps14
  go_wp2_with fail
  go_loopw [8] (fun iv wr => ∃ k : Nat, k ≤ len ∧ iv = .int .i64 (k : Int) ∧ Hid (Below w.heap.size w wr) ∧ Hid (∀ i, i < k → (samD l i).t ≠ tt)) (fun iv _ => len - (intOf iv).toNat)
  case atStart => exact ⟨0, Nat.zero_le _, rfl, hidn (Below.refl _ _), hidn (fun i hi => by omega)⟩
  case round =>
    obtain ⟨k, hk, rfl, HB, HK⟩ := hrel
    obtain ⟨wo, hwo⟩ : ∃ wo, wo = wr := ⟨_, rfl⟩
    subst hwo
    by_cases hlt : k < len
    · have hlt2 : (k : Int) < (len : Int) := by omega
      obtain ⟨b, off, rfl, hb, hcl⟩ := H.out.pos (by omega)
      have c0 : wo.cell? ⟨b, off + k * 2, none⟩ = some (.int .i64 (samD l k).t) := (HB.out.cell (p := ⟨b, off + k * 2, none⟩) hb).trans (hcl k hlt).1
      have c1 : wo.cell? ⟨b, off + k * 2 + 1, none⟩ = some (.int .u64 ((samD l k).v : Int)) := (HB.out.cell (p := ⟨b, off + k * 2 + 1, none⟩) hb).trans (hcl k hlt).2
      obtain ⟨ts, hts⟩ : ∃ x, x = (samD l k).t := ⟨_, rfl⟩
      obtain ⟨vs, hvs⟩ : ∃ x, x = (samD l k).v := ⟨_, rfl⟩
      rw [← hts] at c0
      rw [← hvs] at c1
      have HTS := hidn hts
      have HH := hidn (same_t bf ts tt vs wo ((HB.out.cell (p := ⟨bf, 0, none⟩) hbf).trans HCF.out))
      obtain ⟨hb2, hhb⟩ : ∃ hb2, hb2 = decide (ts = tt) := ⟨_, rfl⟩
      rw [← hhb] at HH
      have HHB := hidn hhb
      clear hcl hts hvs hhb
      go_wp2_with fail
      refine HH.out.mono ?_
      rintro e w2 ⟨rfl, b2⟩
      have HB2 := hidn (HB.out.trans (b2.mono HB.out.size))
      clear b2 HH
      cases hb2
      · have HK1 : Hid (∀ i, i < k + 1 → (samD l i).t ≠ tt) := hidn (fun i hi => by
          by_cases hik : i = k
          · subst hik
            rw [← HTS.out]; exact of_decide_eq_false HHB.out.symm
          · exact HK.out i (by omega))
        go_wp2_with fail
        go_roundw
        case rel => exact ⟨k + 1, by omega, by first | rfl | simp, HB2, HK1⟩
        case measure => simp [intOf]; omega
      · have HC : Hid (hasT l tt = true) := hidn (hasT_yes k (by rw [HL.out]; exact hlt) (by rw [← HTS.out]; exact of_decide_eq_true HHB.out.symm))
        go_wp2_with fail
        go_ret
        exact ⟨(k : Int), rfl, by rw [HC.out]; exact decide_eq_true (by omega), HB2.out⟩
    · have hlt2 : ¬ (k : Int) < (len : Int) := by omega
      have HC : Hid (hasT l tt = false) := hidn (hasT_no (fun i hi => HK.out i (by rw [HL.out] at hi; omega)))
      go_wp2_with fail
      go_ret
      exact ⟨-1, rfl, by rw [HC.out]; rfl, HB.out⟩

set_option maxHeartbeats 2000000 in
set_option maxRecDepth 100000 in
theorem hasT_any (bf : Nat) (a : Option Addr) (len cap : Nat) (l : List Sam) (tt : Int) (w : World) (hf : w.cell? ⟨bf, 0, none⟩ = some (.int .i64 tt)) (h : Sm w a len l) :
    Calls Try.prog 16 #[.slice a len cap, .func (.func 17) #[] #[.pointer (some ⟨bf, 0, none⟩)]] w fun e w' => e = .returned (.bool (hasT l tt)) ∧ Below w.heap.size w w' := by
  have HI := hidn (indexT bf a len cap l tt w hf h)
  clear h hf
  go_enter Try.func16, Try.ntmps16
  go_wp2_with fail
  refine HI.out.mono ?_
  rintro e w2 ⟨q, rfl, hq, b2⟩
  have HQ := hidn hq
  clear hq
  go_wp2_with fail
  go_ret
  exact ⟨by rw [← HQ.out]; rfl, b2⟩

/-- Those whose time is among l's. -/
def lowS (l o : List Sam) : List Sam := o.filter fun s => hasT l s.t

theorem lowS_more (l o : List Sam) (k : Nat) (h : k < o.length) : lowS l (o.take (k + 1)) = if hasT l (samD o k).t = true then lowS l (o.take k) ++ [samD o k] else lowS l (o.take k) := by
  unfold lowS
  rw [take_more o k h, List.filter_append]
  by_cases hc : hasT l (samD o k).t = true <;> simp [List.filter, hc]

theorem lowS_len (l o : List Sam) : (lowS l o).length ≤ o.length := List.length_filter_le _ _

theorem inB_nil (t : Int) : inB [] t = false := rfl

theorem ups_of {l : List Sam} (h : UpZ l) : UpS l := by
  refine List.pairwise_iff_getElem.2 (fun i j hi hj hij => ?_)
  have := h i j hij hj
  rwa [samD_at hi, samD_at hj] at this

theorem mem_at {l : List Sam} {y : Sam} : y ∈ l ↔ ∃ i, i < l.length ∧ samD l i = y := by
  constructor
  · intro h
    obtain ⟨i, hi, rfl⟩ := List.getElem_of_mem h
    exact ⟨i, hi, samD_at hi⟩
  · rintro ⟨i, hi, rfl⟩
    rw [samD_at hi]
    exact List.getElem_mem hi

theorem tell_one {x : Rk} {floor : Int} (hu : UpZ x.zs) (hf : ∀ y ∈ x.zs, floor ≤ y.t) : TellP [x] floor [] x.zs := by
  refine ⟨ups_of hu, fun y => ⟨fun hy => ?_, ?_⟩⟩
  · obtain ⟨i, hi, he⟩ := mem_at.1 hy
    refine ⟨⟨0, x, i, rfl, hi, he, fun q z k hq hk ht => ?_⟩, hf y hy, rfl⟩
    cases q with
    | zero => cases hq; unfold btR; omega
    | succ q => cases hq
  · rintro ⟨⟨p, z, i, hp, hi, he, _⟩, _⟩
    cases p with
    | zero => cases hp; exact mem_at.2 ⟨i, hi, he⟩
    | succ p => cases hp

theorem tell_two {x z : Rk} {floor : Int} (hu : UpZ x.zs) (hr : z.rank < x.rank) (hz : ∀ y ∈ z.zs, ∃ i, i < x.zs.length ∧ (samD x.zs i).t = y.t) (hf : ∀ y ∈ x.zs, floor ≤ y.t) : TellP [x, z] floor [] x.zs := by
  refine ⟨ups_of hu, fun y => ⟨fun hy => ?_, ?_⟩⟩
  · obtain ⟨i, hi, he⟩ := mem_at.1 hy
    refine ⟨⟨0, x, i, rfl, hi, he, fun q r k hq hk ht => ?_⟩, hf y hy, rfl⟩
    match q, hq with
    | 0, hq => cases hq; unfold btR; omega
    | 1, hq => cases hq; unfold btR; omega
  · rintro ⟨⟨p, r, i, hp, hi, he, hw⟩, _⟩
    match p, hp with
    | 0, hp => cases hp; exact mem_at.2 ⟨i, hi, he⟩
    | 1, hp =>
      cases hp
      obtain ⟨j, hj, ht⟩ := hz y (mem_at.2 ⟨i, hi, he⟩)
      exact absurd (.inl hr) (hw 0 x j rfl hj ht)
end Go.Proofs.Ytccjgciknaooaaa
