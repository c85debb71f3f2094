/- slices.SortStableFunc of few footers of one's own. -/
import Derived.Test.YtpbicnpaldfamaaPlU
namespace Go.Proofs.Ytpbicnpaldfamaa
open Go.RowKit Go.Joins
set_option linter.unusedVariables false

theorem insSort_nil (w : World) : Calls Try.prog 21 #[.slice none 0 0, .int .i64 0, .int .i64 0, .func (.func 15) #[] #[]] w fun e w' => e = .returned (.tuple #[]) ∧ w' = w := by
  go_enter Try.func21, Try.ntmps21
  go_wp2_with fail
  go_loopw [8] (fun iv wr => iv = .int .i64 1 ∧ wr = w) (fun iv _ => 0)
  case atStart => exact ⟨rfl, rfl⟩
  case round =>
    obtain ⟨rfl, rfl⟩ := hrel
    go_wp2_with fail
    go_end0
    exact ⟨rfl, rfl⟩

theorem sortI_of_own {w : World} {base g c n : Nat} {l : List Fo} {cur : Array Value} (hn : l.length = n) (hg : w.heap[g]? = some (.cells cur 31 (0, 0))) (hs : n ≤ c) (hc : cur.size = c * 8) (ht : cur.toList.take (n * 8) = fvs l) : SortI w w g n l := by
  have hcell : ∀ i v, (fvs l)[i]? = some v → w.cell? ⟨g, i, none⟩ = some v := fun i v hv => by
    rw [← ht] at hv
    have hi : i < n * 8 := by
      have := (List.getElem?_eq_some_iff.1 hv).1
      rw [List.length_take] at this
      omega
    rw [List.getElem?_take_of_lt hi] at hv
    simp only [World.cell?, hg]
    simpa using hv
  refine ⟨⟨rfl, rfl, rfl, Nat.le_refl _, fun _ _ _ => rfl⟩, fun j d hd i v hv => ?_, fun j hj => ?_, hn, fun c0 h0 => ⟨c0, h0, rfl⟩⟩
  · exact hcell _ _ (fvs_get l _ _ hd _ _ hv)
  · have hlt : j < (fvs l).length := by rw [fvs_length, hn]; exact hj
    refine ⟨?_, ?_⟩
    · rw [Nat.zero_add, hcell j _ (List.getElem?_eq_getElem hlt)]; rfl
    · simp [World.frozen?, hg]

theorem fvs_ext {l : List Fo} {n : Nat} (hn : l.length = n) {xs : List Value} (hx : xs.length = n * 8) (h : ∀ j d, l[j]? = some d → ∀ i v, d.cells[i]? = some v → xs[j * 8 + i]? = some v) : xs = fvs l := by
  apply List.ext_getElem?
  intro k
  by_cases hk : k < n * 8
  · obtain ⟨d, hd⟩ : ∃ d, l[k / 8]? = some d := ⟨_, List.getElem?_eq_getElem (by rw [hn]; omega)⟩
    obtain ⟨v, hv⟩ : ∃ v, d.cells[k % 8]? = some v := ⟨_, List.getElem?_eq_getElem (by show k % 8 < 8; omega)⟩
    have h1 := h _ _ hd _ _ hv
    have h2 := fvs_get l _ _ hd _ _ hv
    rw [show k / 8 * 8 + k % 8 = k from by omega] at h1 h2
    rw [h1, h2]
  · rw [List.getElem?_eq_none (by omega), List.getElem?_eq_none (by rw [fvs_length]; omega)]

theorem own_of_sortI {w w' : World} {base g c n : Nat} {l M : List Fo} {cur : Array Value} (hb : base ≤ g) (hg : w.heap[g]? = some (.cells cur 31 (0, 0))) (hs : n ≤ c) (hm : c ≤ maxLen) (hc : cur.size = c * 8) (h : SortI w w' g n M) : w'.ownsRow base 31 8 (.slice (some ⟨g, 0, none⟩) n c) n (fvs M) := by
  obtain ⟨c1, k1, s1⟩ := h.blk cur hg
  refine ⟨by rw [fvs_length, h.len], .inr ⟨g, c, c1, rfl, hb, k1, hs, hm, by rw [s1, hc], ?_⟩⟩
  refine fvs_ext h.len (by rw [List.length_take, Array.length_toList, s1, hc]; omega) (fun j d hd i v hv => ?_)
  have h1 := h.rows j d hd i v hv
  have hj : j < n := by
    have := (List.getElem?_eq_some_iff.1 hd).1
    rw [h.len] at this
    exact this
  have hi : i < 8 := (List.getElem?_eq_some_iff.1 hv).1
  rw [List.getElem?_take_of_lt (by omega)]
  simp only [World.cell?, k1] at h1
  simpa using h1

def SortP (w : World) (base : Nat) (v : Value) (l : List Fo) (e : Ending) (w' : World) : Prop := e = .returned (.tuple #[]) ∧ OwnF w' base v (sortE l) ∧ Below base w w'

theorem sortP_of {w w' : World} {base g c n : Nat} {l : List Fo} {cur : Array Value} (hO : OwnF w base (.slice (some ⟨g, 0, none⟩) n c) l) (hln : l.length = n) (hb : base ≤ g) (hg : w.heap[g]? = some (.cells cur 31 (0, 0))) (hs : n ≤ c) (hm : c ≤ maxLen) (hc : cur.size = c * 8) (h : SortI w w' g n (sortE l)) : OwnF w' base (.slice (some ⟨g, 0, none⟩) n c) (sortE l) ∧ Below base w w' := by
  have h1 := own_of_sortI (base := base) (l := l) hb hg hs hm hc h
  have hgr := h.grown
  refine ⟨⟨by rw [sortE_len, hln]; exact h1, fun d hd => ?_⟩, ?_⟩
  · have hd' : d ∈ l := (sortE_perm l).mem_iff.1 hd
    have := hO.2 d hd'
    exact ⟨this.1.kept hgr (own_apart this.1 hO.1 (by decide)), this.2⟩
  · exact ⟨hgr.os, hgr.tape, hgr.output, hgr.size, fun i hi => hgr.block i (Nat.lt_of_lt_of_le hi (by have := (Array.getElem?_eq_some_iff.1 hg).1; omega)) (fun e => by injection e; omega)⟩

set_option maxHeartbeats 400000 in
theorem stable_of (a : Option Addr) (n c : Nat) (hn : n < 20) (w : World) (Q : World → Prop) (H : Calls Try.prog 21 #[.slice a n c, .int .i64 0, .int .i64 (n : Int), .func (.func 15) #[] #[]] w fun e w' => e = .returned (.tuple #[]) ∧ Q w') :
    Calls Try.prog 19 #[.slice a n c, .int .i64 (n : Int), .func (.func 15) #[] #[]] w fun e w' => e = .returned (.tuple #[]) ∧ Q w' := by
  have HH := hidn H
  have h20 : ¬ (20 : Int) ≤ (n : Int) := by omega
  have h21 : ¬ (20 : Int) < (n : Int) := by omega
  clear H
  go_enter Try.func19, Try.ntmps19
  go_wp2_with fail
  go_loopw [7, 8] (fun av bv wr => av = .int .i64 0 ∧ bv = .int .i64 20 ∧ wr = w) (fun _ _ _ => 0)
  case atStart => exact ⟨rfl, rfl, rfl⟩
  case round =>
    obtain ⟨rfl, rfl, rfl⟩ := hrel
    go_wp2_with fail
    refine HH.out.mono ?_
    rintro e w1 ⟨rfl, hq⟩
    have HQ := hidn hq
    clear hq
    go_wp2_with fail
    go_loopw [6] (fun bv wr => bv = .int .i64 20 ∧ wr = w1) (fun _ _ => 0)
    case atStart => exact ⟨rfl, rfl⟩
    case round =>
      obtain ⟨rfl, rfl⟩ := hrel
      go_wp2_with fail
      go_end0
      exact ⟨rfl, HQ.out⟩

theorem sortStable_of (a : Option Addr) (n c : Nat) (hn : n < 20) (w : World) (Q : World → Prop) (H : Calls Try.prog 21 #[.slice a n c, .int .i64 0, .int .i64 (n : Int), .func (.func 15) #[] #[]] w fun e w' => e = .returned (.tuple #[]) ∧ Q w') :
    Calls Try.prog 14 #[.slice a n c, .func (.func 15) #[] #[]] w fun e w' => e = .returned (.tuple #[]) ∧ Q w' := by
  have HH := hidn (stable_of a n c hn w Q H)
  clear H
  go_enter Try.func14, Try.ntmps14
  go_wp2_with fail
  refine HH.out.mono ?_
  rintro e w1 ⟨rfl, hq⟩
  have HQ := hidn hq
  clear hq
  go_wp2_with fail
  go_end0
  exact ⟨rfl, HQ.out⟩

theorem sortStable_any {w : World} {base : Nat} {v : Value} {l : List Fo} (hO : OwnF w base v l) (hl : l.length < 20) (hb : base ≤ w.heap.size) :
    Calls Try.prog 14 #[v, .func (.func 15) #[] #[]] w (SortP w base v l) := by
  rcases hO.1.2 with ⟨rfl, h0⟩ | ⟨g, cap, cur, rfl, hg, hh, hnc, hcm, hcs, htk⟩
  · have hl0 : l = [] := List.length_eq_zero_iff.1 h0
    subst hl0
    refine (sortStable_of none 0 0 (by omega) w (fun w' => w' = w) (insSort_nil w)).mono ?_
    rintro e w' ⟨rfl, rfl⟩
    exact ⟨rfl, hO, Below.refl _ _⟩
  · have hS := sortI_of_own (base := base) rfl hh hnc hcs htk
    refine (sortStable_of (some ⟨g, 0, none⟩) l.length cap hl w (fun w' => SortI w w' g l.length (sortE l)) (insSort_any g cap l.length l w hS (by omega))).mono ?_
    rintro e w' ⟨rfl, h⟩
    exact ⟨rfl, sortP_of hO rfl hg hh hnc hcm hcs h⟩

end Go.Proofs.Ytpbicnpaldfamaa
