/- bytes.Equal of bytes that are the same. -/
import Derived.Test.YtocfbokgbpaneaaMa
import Derived.Test.YtocfbokgbpaneaaMc
import Derived.Test.YtocfbokgbpaneaaMm
import Derived.Test.YtocfbokgbpaneaaRyT
import Derived.Test.YtocfbokgbpaneaaRyC
import Derived.Test.YtocfbokgbpaneaaDiskDamD
namespace Go.Proofs.Ytocfbokgbpaneaa
open Go.RowKit Go.Maps
set_option linter.unusedVariables false

set_option maxHeartbeats 1000000 in
theorem bytesEqual_same (w : World) (a b : Option Addr) (n ca cb : Nat) (zs : List Nat) (ha : Bs w a n zs) (hb : Bs w b n zs) :
    Calls Try.prog 39 #[.slice a n ca, .slice b n cb] w fun e w' => e = .returned (.bool true) ∧ Below w.heap.size w w' := by
  have h1 := ha.str (cap := ca)
  have h2 := hb.str (cap := cb)
  have HA := hidn ha
  have HB := hidn hb
  clear ha hb
  generalize strB zs = st at *
  go_enter Try.func39, Try.ntmps39
  go_wp2
  go_ret
  exact ⟨rfl, Below.refl _ _⟩
end Go.Proofs.Ytocfbokgbpaneaa

namespace Go.Proofs.Ytocfbokgbpaneaa
open Go.RowKit Go.Maps
set_option linter.unusedVariables false

theorem DiskS.other {w w' : World} {d N : Nat} {F : Nat → Prop} {st : St} (h : DiskS w d F N st) (hb : ∀ k, F k → w'.heap[k]? = w.heap[k]?) : DiskS w' d F N st := by
  obtain ⟨bm, D, G, C, h1, h2, h3, h4, h5, h6, h7⟩ := h
  refine ⟨bm, D, G, C, (hb d h2.1).trans h1, h2, h3, ?_, h5, fun s hs => ?_, h7⟩
  · obtain ⟨es, clock, hbk, Ft, hs, hD⟩ := h4
    exact ⟨es, clock, (hb bm h3.1).trans hbk, Ft, hs, hD⟩
  · obtain ⟨a1, a2, a3⟩ := h6 s hs
    refine ⟨a1, ?_, a3⟩
    obtain ⟨hl, hr⟩ := a2
    refine ⟨hl, ?_⟩
    rcases hr with hr | ⟨g, cap, cur, hv, hg, hh, r⟩
    · exact .inl hr
    · refine .inr ⟨g, cap, cur, hv, hg, ?_, r⟩
      cases hv
      exact (hb _ (h3.2 s hs)).trans hh

/-- Both disks hold the plain state, each in memory of its own, behind all that was there ahead. -/
def Two (W0 w : World) (d N y : Nat) (room : Int) (st : St) : Prop :=
  Below W0.heap.size W0 w ∧ ∃ Fd Fy : Nat → Prop, DiskS w d Fd N st ∧ DiskY w y Fy room st ∧ (∀ k, Fd k → W0.heap.size ≤ k ∧ k < w.heap.size) ∧ (∀ k, Fy k → W0.heap.size ≤ k ∧ k < w.heap.size) ∧ ∀ k, Fd k → ¬ Fy k

theorem Two.below {W0 w w' : World} {d N y : Nat} {room : Int} {st : St} (h : Two W0 w d N y room st) (hb : Below w.heap.size w w') : Two W0 w' d N y room st := by
  obtain ⟨h0, Fd, Fy, h1, h2, h3, h4, h5⟩ := h
  have hs := hb.size
  refine ⟨h0.trans (hb.mono h0.size), Fd, Fy, h1.below hb, h2.below (fun k hk => (h4 k hk).2) hb, fun k hk => ⟨(h3 k hk).1, ?_⟩, fun k hk => ⟨(h4 k hk).1, ?_⟩, h5⟩
  · have := (h3 k hk).2; omega
  · have := (h4 k hk).2; omega

theorem Two.mono {W0 w : World} {d N N' y : Nat} {room : Int} {st : St} (h : Two W0 w d N y room st) (hn : N ≤ N') : Two W0 w d N' y room st := by
  obtain ⟨h0, Fd, Fy, h1, h2, h3, h4, h5⟩ := h
  exact ⟨h0, Fd, Fy, h1.mono hn, h2, h3, h4, h5⟩

theorem Two.rel {W0 w : World} {d N y : Nat} {room : Int} {st : St} (h : Two W0 w d N y room st) : ∃ V, RelV V room st := by
  obtain ⟨_, Fd, Fy, _, ⟨fa, fc, R, _, hV⟩, _⟩ := h
  exact ⟨_, hV⟩

theorem keeps_below {F : Nat → Prop} {W0 w w' : World} (h0 : Below W0.heap.size W0 w) (hk : Keeps F w w') (hF : ∀ k, F k → W0.heap.size ≤ k) : Below W0.heap.size W0 w' :=
  h0.trans (hk.below h0.size hF)

/-- The program's disk is another one, all else is as it was. -/
theorem Two.prog {W0 w w' : World} {d N N' y : Nat} {room : Int} {st st' : St} {Fd Fy Fd' : Nat → Prop} (h0 : Below W0.heap.size W0 w) (h3 : ∀ k, Fd k → W0.heap.size ≤ k ∧ k < w.heap.size) (h4 : ∀ k, Fy k → W0.heap.size ≤ k ∧ k < w.heap.size) (h5 : ∀ k, Fd k → ¬ Fy k)
    (hy : DiskY w y Fy room st) (hG : Gr Fd Fd' w w') :
    Below W0.heap.size W0 w' ∧ DiskY w' y Fy room st ∧ (∀ k, Fd' k → W0.heap.size ≤ k ∧ k < w'.heap.size) ∧ (∀ k, Fy k → W0.heap.size ≤ k ∧ k < w'.heap.size) ∧ ∀ k, Fd' k → ¬ Fy k := by
  have hs := hG.1.size
  have hs0 := h0.size
  refine ⟨keeps_below h0 hG.1 (fun k hk => (h3 k hk).1), hy.other (fun k hk => hG.1.block k (h4 k hk).2 (fun hd => h5 k hd hk)), fun k hk => ?_, fun k hk => ⟨(h4 k hk).1, ?_⟩, fun k hk hy' => ?_⟩
  · rcases hG.2 k hk with h | ⟨h, h'⟩
    · have := h3 k h; omega
    · omega
  · have := (h4 k hk).2; omega
  · rcases hG.2 k hk with h | ⟨h, h'⟩
    · exact h5 k h hy'
    · have := (h4 k hy').2; omega

/-- The document's disk is another one, all else is as it was. -/
theorem Two.doc {W0 w w' : World} {d N y : Nat} {room : Int} {st : St} {Fd Fy Fy' : Nat → Prop} (h0 : Below W0.heap.size W0 w) (h3 : ∀ k, Fd k → W0.heap.size ≤ k ∧ k < w.heap.size) (h4 : ∀ k, Fy k → W0.heap.size ≤ k ∧ k < w.heap.size) (h5 : ∀ k, Fd k → ¬ Fy k)
    (hd : DiskS w d Fd N st) (hG : Gr Fy Fy' w w') :
    Below W0.heap.size W0 w' ∧ DiskS w' d Fd N st ∧ (∀ k, Fd k → W0.heap.size ≤ k ∧ k < w'.heap.size) ∧ (∀ k, Fy' k → W0.heap.size ≤ k ∧ k < w'.heap.size) ∧ ∀ k, Fd k → ¬ Fy' k := by
  have hs := hG.1.size
  have hs0 := h0.size
  refine ⟨keeps_below h0 hG.1 (fun k hk => (h4 k hk).1), hd.other (fun k hk => hG.1.block k (h3 k hk).2 (fun hy => h5 k hk hy)), fun k hk => ⟨(h3 k hk).1, ?_⟩, fun k hk => ?_, fun k hk hy' => ?_⟩
  · have := (h3 k hk).2; omega
  · rcases hG.2 k hk with h | ⟨h, h'⟩
    · have := h4 k h; omega
    · omega
  · rcases hG.2 k hy' with h | ⟨h, h'⟩
    · exact h5 k hk h
    · have := (h3 k hk).2; omega

theorem fm_congr {α β : Type} : ∀ {l : List α} {f g : α → List β}, (∀ a ∈ l, f a = g a) → l.flatMap f = l.flatMap g
  | [], _, _, _ => rfl
  | a :: l, f, g, h => by rw [List.flatMap_cons, List.flatMap_cons, h a (by simp), fm_congr (fun b hb => h b (List.mem_cons_of_mem _ hb))]

/-- The names of both are the same. -/
theorem names_view {V : Vw} {room : Int} {st : St} (h : RelV V room st) {ts : List (List UInt8)} (hn : Names st.M ts) : ts = V.map fun p => p.1.data.toList := by
  obtain ⟨h1, h2, h3, h4⟩ := hn
  have hv : (V.map fun p => p.1.data.toList).Pairwise (fun a b => a < b) := List.pairwise_map.2 h.rise
  have hmem : ∀ s, s ∈ ts ↔ s ∈ V.map fun p => p.1.data.toList := by
    intro s
    rw [h3 s]
    have e : st.M s = findV V ⟨s.toArray⟩ := by have := h.ext ⟨s.toArray⟩; rw [ba_of] at this; exact this
    rw [e, List.mem_map]
    constructor
    · intro hne
      exact ⟨_, findV_ne hne, ba_of s⟩
    · rintro ⟨p, hp, he⟩ hf
      have e2 : (⟨s.toArray⟩ : ByteArray) = p.1 := ba_ext (by rw [ba_of]; exact he.symm)
      rw [e2, findV_mem h.key (l := p.2) hp] at hf
      exact h.full p hp hf
  have hvn : (V.map fun p => p.1.data.toList).Nodup := hv.imp fun {a b} hab e => by rw [e] at hab; exact List.lt_irrefl _ hab
  have hp : ts.Perm (V.map fun p => p.1.data.toList) := (List.perm_ext_iff_of_nodup h1 hvn).2 hmem
  exact hp.eq_of_pairwise (le := fun a b => a ≤ b) (fun a b _ _ hab hba => List.le_antisymm hab hba) h2 (hv.imp fun {a b} hab => List.le_of_lt hab)

theorem spots_view {V : Vw} {room : Int} {st : St} (h : RelV V room st) : spotsOf st.M (V.map fun p => p.1.data.toList) = V.flatMap fun p => (badAt p.2 p.2.length).map fun i => (p.1.data.toList, i) := by
  unfold spotsOf
  rw [List.flatMap_map]
  refine fm_congr fun p hp => ?_
  unfold spotsIn
  rw [h.ext p.1, findV_mem h.key (l := p.2) hp]

theorem spotsY_view (R : List Yf) : spotsY R = (viewY R).flatMap fun p => (badAt p.2 p.2.length).map fun i => (p.1.data.toList, i) := by
  unfold spotsY viewY
  rw [List.flatMap_map]
  refine fm_congr fun f _ => ?_
  unfold spotsF
  simp

theorem names_sum : ∀ (V : Vw) (ts : List (List UInt8)), ts.Nodup → (ts.map fun s => (findV V ⟨s.toArray⟩).length).sum ≤ sumV V
  | [], ts, _ => by
    have : ∀ ts : List (List UInt8), (ts.map fun s => (findV [] ⟨s.toArray⟩).length).sum = 0 := by
      intro ts
      induction ts with
      | nil => rfl
      | cons a t ih => rw [List.map_cons, List.sum_cons, ih]; rfl
    rw [this]; exact Nat.zero_le _
  | p :: V, ts, hn => by
    have ih := names_sum V ts hn
    rw [sumV_cons]
    have key : ∀ ts : List (List UInt8), ts.Nodup → (ts.map fun s => (findV (p :: V) ⟨s.toArray⟩).length).sum ≤ (if p.1.data.toList ∈ ts then p.2.length else 0) + (ts.map fun s => (findV V ⟨s.toArray⟩).length).sum := by
      intro ts hn
      induction ts with
      | nil => simp
      | cons a t ih2 =>
        rw [List.nodup_cons] at hn
        have h2 := ih2 hn.2
        rw [List.map_cons, List.sum_cons, List.map_cons, List.sum_cons]
        by_cases e : p.1.data.toList = a
        · have e1 : findV (p :: V) ⟨a.toArray⟩ = p.2 := by
            unfold findV
            rw [List.find?_cons, show decide (p.1 = (⟨a.toArray⟩ : ByteArray)) = true from decide_eq_true (ba_ext (by rw [ba_of]; exact e))]
            rfl
          rw [e1]
          have hna : p.1.data.toList ∉ t := by rw [e]; exact hn.1
          rw [if_neg hna] at h2
          rw [if_pos (by rw [e]; simp)]
          omega
        · have e1 : findV (p :: V) ⟨a.toArray⟩ = findV V ⟨a.toArray⟩ := by
            unfold findV
            rw [List.find?_cons, show decide (p.1 = (⟨a.toArray⟩ : ByteArray)) = false from decide_eq_false (fun e' => e (by rw [e', ba_of]))]
          rw [e1]
          have e2 : (if p.1.data.toList ∈ a :: t then p.2.length else 0) = if p.1.data.toList ∈ t then p.2.length else 0 := by simp [e]
          rw [e2]
          omega
    have h3 := key ts hn
    split at h3 <;> omega

theorem RelV.total {V : Vw} {room : Int} {st : St} (h : RelV V room st) : ∀ ts : List (List UInt8), ts.Nodup → (ts.map fun s => (st.M s).length).sum ≤ 1000000 := by
  intro ts hn
  have h1 := names_sum V ts hn
  have h2 := h.sum
  have e : (ts.map fun s => (st.M s).length) = ts.map fun s => (findV V ⟨s.toArray⟩).length := List.map_congr_left fun s _ => by
    have := h.ext ⟨s.toArray⟩
    rw [ba_of] at this
    rw [this]
  rw [e]
  omega
end Go.Proofs.Ytocfbokgbpaneaa

namespace Go.Proofs.Ytocfbokgbpaneaa
open Go.RowKit Go.Maps
set_option linter.unusedVariables false
theorem neq_spot (w : World) (s : ByteArray) (i : Int) : (binOp .neq 73 (.agg #[.string s, .int .i64 i]) (.agg #[.string s, .int .i64 i])).run Try.prog w = .ok (.bool false) w := by
  rw [run_neq_struct]
  simp [go_sem, Try.underlying73]
set_option maxHeartbeats 2000000 in
set_option maxRecDepth 100000 in
theorem spotEq_one (w : World) (a b : Nat) (ca cb : Nat) (s : ByteArray) (i : Int) (h1 : w.cell? ⟨a, 0, none⟩ = some (.string s)) (h2 : w.cell? ⟨a, 1, none⟩ = some (.int .i64 i)) (h3 : w.cell? ⟨b, 0, none⟩ = some (.string s)) (h4 : w.cell? ⟨b, 1, none⟩ = some (.int .i64 i)) :
    Calls Try.prog 32 #[.slice (some ⟨a, 0, none⟩) 1 ca, .slice (some ⟨b, 0, none⟩) 1 cb] w fun e w' => e = .returned (.bool true) ∧ Below w.heap.size w w' := by
  have hnq := fun wx => neq_spot wx s i
  have HS : Hid (w.drew.cell? ⟨a, 0, none⟩ = some (.string s) ∧ w.drew.cell? ⟨a, 1, none⟩ = some (.int .i64 i) ∧ w.drew.cell? ⟨b, 0, none⟩ = some (.string s) ∧ w.drew.cell? ⟨b, 1, none⟩ = some (.int .i64 i)) := hidn ⟨h1, h2, h3, h4⟩
  clear h1 h2 h3 h4
  go_enter Try.func32, Try.ntmps32
  go_wp2_with fail
  go_loopw [13] (fun kv wr => ∃ k : Nat, k ≤ 1 ∧ kv = .int .i64 (k : Int) ∧ (k = 0 → wr = w) ∧ Below w.heap.size w wr) (fun kv _ => 1 - (intOf kv).toNat)
  case atStart => exact ⟨0, by omega, rfl, fun _ => rfl, Below.refl _ _⟩
  case round =>
    obtain ⟨k, hk, rfl, hw0, hb⟩ := hrel
    by_cases h0 : k = 0
    · subst h0
      obtain rfl := hw0 rfl
      clear hw0 hk
      simp only [Int.ofNat_zero] at *
      go_wp2_with fail
      refine wp_region_noPanic ?_
      refine wp_region_held_drew (S := fun w' => w'.cell? ⟨a, 0, none⟩ = some (.string s) ∧ w'.cell? ⟨a, 1, none⟩ = some (.int .i64 i) ∧ w'.cell? ⟨b, 0, none⟩ = some (.string s) ∧ w'.cell? ⟨b, 1, none⟩ = some (.int .i64 i)) (by kernel_rfl) HS.out (fun hHeld => ?_)
      refine drawn_take (i := 0) (v := .slice (some ⟨a, 0, none⟩) 1 ca) (some 16) rfl rfl (by kernel_rfl) (by kernel_rfl) (by kernel_rfl) (fun _ _ _ h => h) (Or.inl ⟨by kernel_rfl, fun wq hw => by go_simp⟩) hHeld ?_
      simp only [Act.put, List.setIfInBounds_toArray, List.set_cons_succ, List.set_cons_zero]
      refine drawn_take (i := 1) (v := .int .i64 0) (some 17) rfl rfl (by kernel_rfl) (by kernel_rfl) (by kernel_rfl) (fun _ _ _ h => h) (Or.inl ⟨by kernel_rfl, fun wq hw => by go_simp⟩) hHeld ?_
      simp only [Act.put, List.setIfInBounds_toArray, List.set_cons_succ, List.set_cons_zero]
      refine drawn_take (i := 2) (v := .pointer (some ⟨a, 0, none⟩)) (some 18) rfl rfl (by kernel_rfl) (by kernel_rfl) (by kernel_rfl) (fun _ _ _ h => h) (Or.inl ⟨by kernel_rfl, fun wq hw => by go_simp⟩) hHeld ?_
      simp only [Act.put, List.setIfInBounds_toArray, List.set_cons_succ, List.set_cons_zero]
      refine drawn_take (i := 3) (v := .agg #[.string s, .int .i64 i]) (some 19) rfl rfl (by kernel_rfl) (by kernel_rfl) (by kernel_rfl) (fun _ _ _ h => h) (Or.inl ⟨by kernel_rfl, fun wq hw => by have q0 := hw.1; have q1 := hw.2.1; go_simp⟩) hHeld ?_
      simp only [Act.put, List.setIfInBounds_toArray, List.set_cons_succ, List.set_cons_zero]
      refine drawn_take (i := 4) (v := .slice (some ⟨b, 0, none⟩) 1 cb) (some 20) rfl rfl (by kernel_rfl) (by kernel_rfl) (by kernel_rfl) (fun _ _ _ h => h) (Or.inl ⟨by kernel_rfl, fun wq hw => by go_simp⟩) hHeld ?_
      simp only [Act.put, List.setIfInBounds_toArray, List.set_cons_succ, List.set_cons_zero]
      refine drawn_take (i := 5) (v := .int .i64 0) (some 21) rfl rfl (by kernel_rfl) (by kernel_rfl) (by kernel_rfl) (fun _ _ _ h => h) (Or.inl ⟨by kernel_rfl, fun wq hw => by go_simp⟩) hHeld ?_
      simp only [Act.put, List.setIfInBounds_toArray, List.set_cons_succ, List.set_cons_zero]
      refine drawn_take (i := 6) (v := .pointer (some ⟨b, 0, none⟩)) (some 22) rfl rfl (by kernel_rfl) (by kernel_rfl) (by kernel_rfl) (fun _ _ _ h => h) (Or.inl ⟨by kernel_rfl, fun wq hw => by go_simp⟩) hHeld ?_
      simp only [Act.put, List.setIfInBounds_toArray, List.set_cons_succ, List.set_cons_zero]
      refine drawn_take (i := 7) (v := .agg #[.string s, .int .i64 i]) (some 23) rfl rfl (by kernel_rfl) (by kernel_rfl) (by kernel_rfl) (fun _ _ _ h => h) (Or.inl ⟨by kernel_rfl, fun wq hw => by have q0 := hw.2.2.1; have q1 := hw.2.2.2; go_simp⟩) hHeld ?_
      simp only [Act.put, List.setIfInBounds_toArray, List.set_cons_succ, List.set_cons_zero]
      refine drawn_take (i := 8) (v := .bool false) (some 24) rfl rfl (by kernel_rfl) (by kernel_rfl) (by kernel_rfl) (fun _ _ _ h => h) (Or.inl ⟨by kernel_rfl, fun wq hw => by go_simp⟩) hHeld ?_
      simp only [Act.put, List.setIfInBounds_toArray, List.set_cons_succ, List.set_cons_zero]
      refine wpAnyH_done (by kernel_rfl) ?_ _
      refine NoPanic.normal ?_
      clear hHeld
      go_wp2_with fail
      exact ⟨⟨1, by omega, by go_num, (fun h => by omega), (Below.refl _ _).drew⟩, by simp [intOf]⟩
    · have hk1 : k = 1 := by omega
      subst hk1
      clear hw0
      have hlt : ¬ ((1 : Nat) : Int) < 1 := by omega
      go_wp2_with fail
      go_ret
      exact ⟨rfl, hb⟩
end Go.Proofs.Ytocfbokgbpaneaa
