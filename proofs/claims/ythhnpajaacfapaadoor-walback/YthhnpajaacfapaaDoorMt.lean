/- WalBack, plainly: a log both of whose files are right; one of them turned. -/
import Derived.Test.YthhnpajaacfapaaDoorMo
import Derived.Test.YthhnpajaacfapaaDoorMs
import Derived.Test.YthhnpajaacfapaaDoorMm
namespace Go.Proofs.YthhnpajaacfapaaDoor
open Go.RowKit Go.Maps
set_option linter.unusedVariables false

/-- A log both of whose files are right, and synced. -/
structure LogB (M : List UInt8 → List Ext) (k n : Nat) : Prop where
  ok : LogOK M (segN k) n
  both : ∀ i, i < n → ∃ q, rdO (M (fileA (segN k)).data.toList) (nums (fileA (segN k))) (i : Int) = some q ∧ rdO (M (fileB (segN k)).data.toList) (nums (fileB (segN k))) (i : Int) = some q
  full : ∀ t, ∀ x ∈ M t, x.syn = x.dur ∧ x.wri = x.dur ∧ x.waits = false

theorem logB_new (k : Nat) : LogB (fun _ => []) k 0 := ⟨logOK_new k, fun i hi => by omega, fun t x hx => by simp at hx⟩

theorem fullW_full (s : ByteArray) (at' g : Nat) (ps : List (List Nat)) : ∀ x ∈ fullW s at' g ps, x.syn = x.dur ∧ x.wri = x.dur ∧ x.waits = false := by
  intro x hx
  obtain ⟨y, hy, rfl⟩ := List.mem_map.1 hx
  obtain ⟨q, _, rfl⟩ := List.mem_map.1 hy
  simp [Ext.synced, Ext.wrote]

theorem LogB.app {M : List UInt8 → List Ext} {k n : Nat} (hk : k < 10) (h : LogB M k n) (g : Nat) (hg : g ≤ 4611686018427387904) (z : List Nat) (hn : n + (partsB (recB z)).length ≤ 2147483647) : LogB (appM M (segN k) n g (partsB (recB z))) k (n + (partsB (recB z)).length) := by
  refine ⟨h.ok.app hk g _, fun i hi => ?_, fun t x hx => ?_⟩
  · by_cases h1 : i < n
    · obtain ⟨q, hA, hB⟩ := h.both i h1
      refine ⟨q, ?_, ?_⟩
      · rw [appM_A, rdO_eq (List.getElem?_append_left (by rw [← h.ok.lA]; exact h1))]; exact hA
      · rw [appM_B, rdO_eq (List.getElem?_append_left (by rw [← h.ok.lB]; exact h1))]; exact hB
    · obtain ⟨j, rfl⟩ : ∃ j, i = n + j := ⟨i - n, by omega⟩
      obtain ⟨p, hp⟩ : ∃ p, (partsB (recB z))[j]? = some p := ⟨_, List.getElem?_eq_getElem (by omega)⟩
      obtain ⟨_, _, hpl⟩ := partsB_mem _ _ _ hp
      refine ⟨(p, g), ?_, ?_⟩
      · rw [appM_A]
        exact rdO_frame _ (fileA (segN k)) (n + j) g p _ (by rw [List.getElem?_append_right (by rw [← h.ok.lA]; omega), ← h.ok.lA, Nat.add_sub_cancel_left]; exact fullW_at _ _ _ _ _ _ hp) rfl (by omega) hg hpl
      · rw [appM_B]
        exact rdO_frame _ (fileB (segN k)) (n + j) g p _ (by rw [List.getElem?_append_right (by rw [← h.ok.lB]; omega), ← h.ok.lB, Nat.add_sub_cancel_left]; exact fullW_at _ _ _ _ _ _ hp) rfl (by omega) hg hpl
  · by_cases e1 : t = (fileA (segN k)).data.toList
    · rw [e1, appM_A] at hx
      rcases List.mem_append.1 hx with hx | hx
      · exact h.full _ x hx
      · exact fullW_full _ _ _ _ x hx
    · by_cases e2 : t = (fileB (segN k)).data.toList
      · rw [e2, appM_B] at hx
        rcases List.mem_append.1 hx with hx | hx
        · exact h.full _ x hx
        · exact fullW_full _ _ _ _ x hx
      · rw [appM_o _ _ _ _ _ _ e1 e2] at hx
        exact h.full t x hx

/-- The bytes that a file was written with. -/
def durZ (l : List Ext) (j : Nat) : List Nat := ((l[j]?).map Ext.dur).getD []

theorem LogB.bad {M : List UInt8 → List Ext} {k n : Nat} (h : LogB M k n) (hok : ∀ t, ∀ x ∈ M t, x.ok) (t : List UInt8) : BadF (M t) (M t).length (durZ (M t)) := by
  refine ⟨rfl, fun j x hx => ?_⟩
  obtain ⟨a1, a2, a3⟩ := h.full t x (List.mem_of_getElem? hx)
  have e : durZ (M t) j = x.dur := by unfold durZ; rw [hx]; rfl
  exact ⟨by rw [e]; exact a1, by rw [e]; exact a2, a3, hok t x (List.mem_of_getElem? hx)⟩

theorem told_rd {M M' : List UInt8 → List Ext} {s : ByteArray} (hT : ToldAt M' M s.data.toList (M' s.data.toList).length) (hl : (M' s.data.toList).length = (M s.data.toList).length) (i : Nat) : rdO (M' s.data.toList) (nums s) (i : Int) = none ∨ rdO (M' s.data.toList) (nums s) (i : Int) = rdO (M s.data.toList) (nums s) (i : Int) := by
  unfold rdO
  rw [if_neg (by omega), if_neg (by omega), Int.toNat_natCast]
  cases hx : (M' s.data.toList)[i]? with
  | none => exact .inl rfl
  | some x =>
    have hi := (List.getElem?_eq_some_iff.1 hx).1
    obtain ⟨y, hy⟩ : ∃ y, (M s.data.toList)[i]? = some y := ⟨_, List.getElem?_eq_getElem (by omega)⟩
    rw [hy]
    show openB x.rd (nums s) (i : Int) = none ∨ openB x.rd (nums s) (i : Int) = openB y.rd (nums s) (i : Int)
    by_cases h0 : openB x.rd (nums s) (i : Int) = none
    · exact .inl h0
    · have e : (⟨s.data.toList.toArray⟩ : ByteArray) = s := by cases s; simp
      have := hT i x y hi hx hy (by rw [e]; exact h0)
      rw [this]
      exact .inr rfl

/-- With one file turned what is told is as it was. -/
theorem half_get {M M' : List UInt8 → List Ext} {k n : Nat} (h : LogB M k n) (f : ByteArray) (hf : f = fileA (segN k) ∨ f = fileB (segN k)) (l : List Ext) (hM : M' = upd M f.data.toList l) (hl : l.length = (M f.data.toList).length) (hT : ToldAt M' M f.data.toList (M' f.data.toList).length) : ∀ i, i < n → getP M' (segN k) (i : Int) = getP M (segN k) (i : Int) := by
  intro i hi
  obtain ⟨q, hA, hB⟩ := h.both i hi
  have hg : getP M (segN k) (i : Int) = some q := by
    unfold getP
    rw [hA, hB]
    unfold getO
    simp
  rw [hg]
  have hlen : (M' f.data.toList).length = (M f.data.toList).length := by rw [hM, upd_same]; exact hl
  have ht := told_rd hT hlen i
  unfold getP
  rcases hf with rfl | rfl
  · have hB' : M' (fileB (segN k)).data.toList = M (fileB (segN k)).data.toList := by rw [hM]; exact upd_other _ _ _ _ (file_ne _)
    rw [hB', hB]
    rcases ht with h1 | h1
    · rw [h1]; rfl
    · rw [h1, hA]; unfold getO; simp
  · have hA' : M' (fileA (segN k)).data.toList = M (fileA (segN k)).data.toList := by rw [hM]; exact upd_other _ _ _ _ (Ne.symm (file_ne _))
    rw [hA', hA]
    rcases ht with h1 | h1
    · rw [h1]; rfl
    · rw [h1, hB]; unfold getO; simp
end Go.Proofs.YthhnpajaacfapaaDoor

namespace Go.Proofs.YthhnpajaacfapaaDoor
open Go.RowKit Go.Maps
set_option linter.unusedVariables false

/-- A list of texts in memory, wherever it lies. -/
def Tls (w : World) (a : Option Addr) (len : Nat) (rs : List (List Nat)) : Prop :=
  rs.length = len ∧ len ≤ maxLen ∧ (a = none → len = 0) ∧ ∀ x, a = some x → ∀ (j : Nat) (z : List Nat), rs[j]? = some z → ∃ (b : Option Addr) (c : Nat), w.cell? (x.add j) = some (.slice b z.length c) ∧ Bs w b z.length z

theorem Tls.below {w w' : World} {a : Option Addr} {len : Nat} {rs : List (List Nat)} (h : Tls w a len rs) (hb : Below w.heap.size w w') : Tls w' a len rs := by
  obtain ⟨h1, h2, h3, h4⟩ := h
  refine ⟨h1, h2, h3, fun x hx j z hz => ?_⟩
  obtain ⟨b, c, hc, hB⟩ := h4 x hx j z hz
  exact ⟨b, c, (hb.cell (block_lt_of_cell hc)).trans hc, hB.below hb⟩

theorem Tls.at {w : World} {a : Option Addr} {len j : Nat} {rs : List (List Nat)} {z : List Nat} (h : Tls w a len rs) (hz : rs[j]? = some z) :
    ∃ b off b2 c, a = some ⟨b, off, none⟩ ∧ w.cell? ⟨b, off + j, none⟩ = some (.slice b2 z.length c) ∧ Bs w b2 z.length z := by
  obtain ⟨h1, h2, h3, h4⟩ := h
  cases a with
  | none =>
    have := h3 rfl
    have := (List.getElem?_eq_some_iff.1 hz).1
    omega
  | some x =>
    obtain ⟨b, off, spot⟩ := x
    obtain ⟨z0, hz0⟩ : ∃ z0, rs[0]? = some z0 := ⟨_, List.getElem?_eq_getElem (by have := (List.getElem?_eq_some_iff.1 hz).1; omega)⟩
    obtain ⟨_, _, hc0, _⟩ := h4 _ rfl 0 z0 hz0
    have hspot : spot = none := by simpa [Addr.add] using World.cell?_spot hc0
    subst hspot
    obtain ⟨b2, c, hc, hB⟩ := h4 _ rfl j z hz
    rw [add_none] at hc
    exact ⟨b, off, b2, c, rfl, hc, hB⟩

theorem Txs.tls {w : World} {base : Nat} {v : Value} {rs : List (List Nat)} (h : Txs w base v rs) : ∃ a c, v = .slice a rs.length c ∧ Tls w a rs.length rs := by
  obtain ⟨vs, h1, h2⟩ := h
  rcases h1.2 with ⟨hv, h0⟩ | ⟨g, cap, cur, hv, _, hg, hle, hcm, _, hc⟩
  · refine ⟨none, 0, by rw [hv, h0], rfl, by rw [h0]; exact Nat.zero_le _, fun _ => h0, fun x hx => by cases hx⟩
  · refine ⟨some ⟨g, 0, none⟩, cap, hv, rfl, by omega, (fun e => by cases e), fun x hx j z hz => ?_⟩
    cases hx
    obtain ⟨a, c, e, hB, _⟩ := h2 j z hz
    refine ⟨a, c, ?_, hB⟩
    rw [add_none, cell_of_row _ _ _ _ _ _ hg]
    have hj := (List.getElem?_eq_some_iff.1 hz).1
    rw [← hc, List.getElem?_take, if_pos (by omega)] at e
    simpa using e

set_option maxRecDepth 100000 in
set_option maxHeartbeats 2000000 in
theorem equalFunc_same (a a' : Option Addr) (len cap cap' : Nat) (rs : List (List Nat)) (w : World) (h : Tls w a len rs) (h' : Tls w a' len rs) :
    Calls Tryd.prog 30 #[.slice a len cap, .slice a' len cap', .func (.func 28) #[] #[]] w fun e w' => e = .returned (.bool true) ∧ w' = w := by
  have hl := hidn h.1
  have hm := h.2.1
  unfold maxLen at hm
  go_enter Tryd.func30, Tryd.ntmps30
  go_wp2_with fail
  go_loopw [17] (fun iv wr => ∃ k : Nat, k ≤ len ∧ iv = .int .i64 (k : Int) ∧ wr = w) (fun iv _ => len - (intOf iv).toNat)
  case atStart => exact ⟨0, Nat.zero_le _, rfl, rfl⟩
  case round =>
    obtain ⟨k, hk, rfl, rfl⟩ := hrel
    by_cases hlt : k < len
    · have hlt2 : (k : Int) < (len : Int) := by omega
      obtain ⟨z, hz⟩ : ∃ z, rs[k]? = some z := ⟨_, List.getElem?_eq_getElem (by rw [hl.out]; exact hlt)⟩
      obtain ⟨b, off, b2, c2, rfl, hc, hB⟩ := h.at hz
      obtain ⟨b', off', b2', c2', rfl, hc', hB'⟩ := h'.at hz
      have HEQ := hidn (equal_any b2 b2' z.length c2 z.length c2' z z wr hB hB')
      obtain ⟨zl, hzl⟩ : ∃ zl, zl = z.length := ⟨_, rfl⟩
      rw [← hzl] at HEQ hc hc'
      clear hz hB hB' hzl
      go_wp2_with fail
      refine HEQ.out.mono ?_
      clear HEQ
      rintro e w2 ⟨rfl, rfl⟩
      go_wp2
      go_roundw
      case rel => exact ⟨k + 1, hlt, by simp, trivial⟩
      case measure => simp [intOf]; omega
    · have hlt2 : ¬ (k : Int) < (len : Int) := by omega
      go_wp2
      go_ret
      exact ⟨rfl, rfl⟩

set_option maxHeartbeats 1000000 in
theorem sameTexts_same (a a' : Option Addr) (len cap cap' : Nat) (rs : List (List Nat)) (w : World) (h : Tls w a len rs) (h' : Tls w a' len rs) :
    Calls Tryd.prog 12 #[.slice a len cap, .slice a' len cap'] w fun e w' => e = .returned (.bool true) ∧ w' = w := by
  have H := hidn (equalFunc_same a a' len cap cap' rs w h h')
  go_enter Tryd.func12, Tryd.ntmps12
  go_wp2_with fail
  refine H.out.mono ?_
  rintro e w1 ⟨rfl, rfl⟩
  go_wp2
  go_ret
  exact ⟨rfl, rfl⟩
end Go.Proofs.YthhnpajaacfapaaDoor
