/- chunk.putChunk. -/
import Derived.Test.YtfgfkifdokeefaaDoorChA
import Derived.Test.YtfgfkifdokeefaaDoorAppK
namespace Go.Proofs.YtfgfkifdokeefaaDoor
open Go.RowKit Go.Joins
open Cd (Sam Sm canS encS samD SamOK IsPack BitsTab DbTab)
set_option linter.unusedVariables false
/-- Bytes of one's own, and what else is kept. -/
def ChP (w : World) (B : Nat) (row : Option Nat) (zs : List Nat) (ls : List Lab) (sm : List Sam) (e : Ending) (w' : World) : Prop :=
  ∃ v p, e = .returned v ∧ IsPack p (encS sm) ∧ w'.ownsRow B 5 1 v (zs ++ chunkB ls p).length (vb (zs ++ chunkB ls p)) ∧ Below B w w' ∧ ∀ k, k < w.heap.size → some k ≠ row → w'.heap[k]? = w.heap[k]?
theorem vb_app (a b : List Nat) : vb (a ++ b) = vb a ++ vb b := by simp [vb]
/-- Bytes that are being built: where they lie, and what else is kept since w0. -/
structure Bld (w0 w : World) (B : Nat) (row : Option Nat) (v : Value) (zs : List Nat) : Prop where
  own : w.ownsRow B 5 1 v zs.length (vb zs)
  bel : Below B w0 w
  siz : w0.heap.size ≤ w.heap.size
  kep : ∀ k, k < w0.heap.size → some k ≠ row → w.heap[k]? = w0.heap[k]?
  blk : ∀ k, v.ownBlock = some k → some k = row ∨ w0.heap.size ≤ k
theorem Bld.start {w : World} {B : Nat} {v : Value} {zs : List Nat} (h : w.ownsRow B 5 1 v zs.length (vb zs)) : Bld w w B v.ownBlock v zs :=
  ⟨h, Below.refl _ _, Nat.le_refl _, fun _ _ _ => rfl, fun k hk => .inl hk.symm⟩
theorem Bld.below {w0 w w' : World} {B : Nat} {row : Option Nat} {v : Value} {zs : List Nat} (h : Bld w0 w B row v zs) (hB : B ≤ w0.heap.size) (hb : Below w.heap.size w w') : Bld w0 w' B row v zs :=
  ⟨own_skip h.own hb, h.bel.trans (hb.mono (Nat.le_trans hB h.siz)), Nat.le_trans h.siz hb.size, fun k h1 h2 => (hb.block k (Nat.lt_of_lt_of_le h1 h.siz)).trans (h.kep k h1 h2), h.blk⟩
/-- More bytes behind them: a run of append, and what then is kept of all that lies elsewhere. -/
theorem Bld.app {w0 w : World} {B : Nat} {row : Option Nat} {v : Value} {zs : List Nat} (h : Bld w0 w B row v zs) (hB : B ≤ w0.heap.size) (ys : List Nat) (ad : Addr) (c : Nat) (hm : 0 < ys.length) (hn : zs.length + ys.length ≤ 100000000000000)
    (hc : ∀ j u, (vb ys)[j]? = some u → w.cell? (ad.add j) = some u) :
    ∃ g c' w', (Builtin.append_ #[25, 25] 25 #[v, .slice (some ad) ys.length c]).run Tryd.prog w = .ok (.slice (some ⟨g, 0, none⟩) (zs.length + ys.length) c') w' ∧ Bld w0 w' B row (.slice (some ⟨g, 0, none⟩) (zs.length + ys.length) c') (zs ++ ys) ∧
      w.heap.size ≤ w'.heap.size ∧ (∀ k, k < w.heap.size → some k ≠ v.ownBlock → w'.heap[k]? = w.heap[k]?) ∧ (v.ownBlock = some g ∨ w.heap.size ≤ g) := by
  obtain ⟨i0, hi, hz0, hz1, hz2⟩ := info_parts Tryd.info5
  obtain ⟨g, c', w', hr, ho, hg, hk⟩ := appN (P := Tryd.prog) w 25 25 5 i0 (.int .u8 0) 1 1 Tryd.underlying25 hi hz0 hz1 hz2 rfl (by decide) v zs.length (vb zs) B h.own (Nat.le_trans hB h.siz) ad ys.length c hm (vb ys) (by simp [vb]) hc (vb_cell ys) (by unfold maxLen; omega) (by omega)
  refine ⟨g, c', w', hr, ⟨?_, ?_, Nat.le_trans h.siz hg.size, ?_, ?_⟩, hg.size, hg.block, hk⟩
  · rw [vb_app, List.length_append]; exact ho
  · exact h.bel.grown hg (Nat.le_trans hB h.siz) (fun j hj => (h.own.lt j hj).1)
  · intro k h1 h2
    refine (hg.block k (Nat.lt_of_lt_of_le h1 h.siz) (fun e => ?_)).trans (h.kep k h1 h2)
    rcases h.blk k e.symm with h3 | h3
    · exact h2 h3
    · omega
  · intro k hk2
    simp [Value.ownBlock] at hk2
    subst hk2
    rcases hk with h3 | h3
    · exact h.blk _ h3
    · exact .inr (Nat.le_trans h.siz h3)
set_option maxHeartbeats 4000000 in
set_option maxRecDepth 100000 in
theorem putChunk_any (B : Nat) (v : Value) (zs : List Nat) (s : Ser) (w : World) (h : w.ownsRow B 5 1 v zs.length (vb zs)) (hn : zs.length ≤ 1000000000000) (hB : B ≤ w.heap.size) (hs : s.ok w) (hc : canOK s.ls = true) (hcs : canS s.sm = true) (hT : BitsTab w) (hD : DbTab w) :
    Calls Tryd.prog 31 #[v, .slice s.la s.ll s.lc, .slice s.sa s.sl s.sc] w (ChP w B v.ownBlock zs s.ls s.sm) := by
  obtain ⟨i0, hi, hz0, hz1, hz2⟩ := info_parts Tryd.info5
  obtain ⟨la, ll, lc, ls, sa, sl, sc, sm⟩ := s
  obtain ⟨hL, hll, hS, hsc, hscm⟩ := hs
  simp only at hL hll hS hsc hscm hc hcs ⊢
  obtain ⟨n, hnz⟩ : ∃ n, n = zs.length := ⟨_, rfl⟩
  rw [← hnz] at h hn
  obtain ⟨row, hrow⟩ : ∃ row, row = v.ownBlock := ⟨_, rfl⟩
  have HR := hidn hrow
  rw [← hrow]
  obtain ⟨va, vc, rfl⟩ := own_slice h
  have HNZ := hidn hnz
  have HS0 : Hid (Bld w w B row (.slice va n vc) zs) := hidn (by rw [HR.out]; exact Bld.start (by rw [← HNZ.out]; exact h))
  have h8 : (encN ls).length ≤ 600 := by
    have h1 := encTo_len ls hc ls.length (Nat.le_refl _)
    have h2 := ((canOK_iff ls).1 hc).2.1
    have h3 : (encN ls).length ≤ 1 + 66 * ls.length := h1
    omega
  have HE := hidn (enc_yes la ll lc ls w hL hll hc)
  obtain ⟨he, hhe⟩ : ∃ he, he = (encN ls).length := ⟨_, rfl⟩
  rw [← hhe] at h8 HE
  have HHE := hidn hhe
  clear hnz hrow h hhe
  go_enter Tryd.func31, Tryd.ntmps31
  go_wp2_with fail
  refine HE.out.mono ?_
  rintro e w1 ⟨g1, c1, rfl, hg1, hc1, hcm1, hB1, _, b1⟩
  have HP := hidn (Cd.senc_yes sa sl sc sm w1 (hS.below b1) hcs (hT.below b1) (hD.below b1))
  have o1 := hidn (HS0.out.below hB b1)
  have HB1 := hidn hB1
  clear hB1
  go_wp2_with fail
  refine HP.out.mono ?_
  rintro e w2 ⟨v2, p, rfl, hp, own2, b2⟩
  have hpl := pack_len hp ((Cd.canS_iff sm).1 hcs).1
  obtain ⟨pl, hpe⟩ : ∃ pl, pl = p.length := ⟨_, rfl⟩
  rw [← hpe] at own2 hpl
  have HPE := hidn hpe
  have HPP := hidn hp
  obtain ⟨g2, c2, rfl, hg2⟩ : ∃ g c, v2 = .slice (some ⟨g, 0, none⟩) pl c ∧ w1.heap.size ≤ g := by
    rcases own2.2 with ⟨_, h0⟩ | ⟨g, c, _, h1, h2, _⟩
    · omega
    · exact ⟨g, c, h1, h2⟩
  have HO2 := hidn own2
  have B2 := hidn (b1.trans (b2.mono b1.size))
  have o2 := hidn (o1.out.below hB b2)
  have HB2 := hidn (HB1.out.below b2)
  obtain ⟨N, hN⟩ : ∃ N, N = he + pl := ⟨_, rfl⟩
  have hw : IntKind.u64.wrap ((he : Int) + (pl : Int)) = (N : Int) := by rw [IntKind.wrap_u64, hN]; omega
  have HN := hidn hN
  have HPUT := hidn (put_any N 4 4 w2 (by omega) (.inr (.inl ⟨by decide, by decide, rfl⟩)))
  have bb2 := b2.size
  have lt1 : g1 < w2.heap.size := by
    have := block_lt_of_cell (bs_cells HB1.out 0 (.int .u8 (((encN ls).getD 0 0 : Nat) : Int)) (by
      have : 0 < (encN ls).length := by
        have h1 : (encN ls).length = he := HHE.out.symm
        have h2 := HB1.out.1
        have h3 := encN_pos ls
        omega
      simp [vb, List.getD_eq_getElem?_getD, List.getElem?_eq_getElem this]))
    exact Nat.lt_of_lt_of_le this b2.size
  have lt2 : g2 < w2.heap.size := (HO2.out.lt g2 rfl).2
  clear hpe hp own2 b2 hN
  go_wp2_with fail
  refine HPUT.out.mono ?_
  rintro e w3 ⟨rfl, own3, b3⟩
  have o3 := o2.out.below hB b3
  have HB3 := hidn (HB2.out.below b3)
  have HC2 : Hid (∀ j u, (vb p)[j]? = some u → w3.cell? ((⟨g2, 0, none⟩ : Addr).add j) = some u) := hidn ((own_skip HO2.out b3).cells (g := g2) rfl)
  have hnn : zs.length + (putB N 4).length ≤ 100000000000000 := by rw [← HNZ.out, putB_length]; omega
  obtain ⟨g4, c4, w4, hr4, s4, z4, k4, f4⟩ := o3.app hB (putB N 4) ⟨w2.heap.size, 0, none⟩ 4 (by rw [putB_length]; decide) hnn (own3.cells (g := w2.heap.size) rfl)
  rw [putB_length, ← HNZ.out] at hr4 s4
  have HR4 := hidn hr4
  have hs3 := b3.size
  have hrw : ∀ k, (Value.slice va n vc).ownBlock = some k → k < w.heap.size := fun k hk => (HS0.out.own.lt k hk).2
  have hb12 : w.heap.size ≤ w1.heap.size := b1.size
  have HC1 : Hid (∀ j u, (vb (encN ls))[j]? = some u → w4.cell? ((⟨g1, 0, none⟩ : Addr).add j) = some u) := hidn (fun j u hj => by
    have h1 := bs_cells (by rw [HHE.out] at HB3; exact HB3.out) j u hj
    rw [← h1, ladd_none]
    exact World.cell?_of_block (k4 g1 (by omega) (fun e => by have := hrw g1 e.symm; omega)))
  have HC2' : Hid (∀ j u, (vb p)[j]? = some u → w4.cell? ((⟨g2, 0, none⟩ : Addr).add j) = some u) := hidn (fun j u hj => by
    have h1 := HC2.out j u hj
    rw [← h1, ladd_none]
    exact World.cell?_of_block (k4 g2 (by omega) (fun e => by have := hrw g2 e.symm; omega)))
  have hlp : (putB N 4).length = 4 := putB_length 4 N
  obtain ⟨g5, c5, w5, hr5, s5, z5, k5, f5⟩ := s4.app hB (encN ls) ⟨g1, 0, none⟩ c1 (encN_pos ls) (by rw [List.length_append, hlp, ← HNZ.out, ← HHE.out]; omega) HC1.out
  rw [List.length_append, hlp, ← HNZ.out, ← HHE.out] at hr5 s5
  have hg42 : ¬ some g2 = (Value.slice (some ⟨g4, 0, none⟩) (n + 4) c4).ownBlock := fun e => by
    simp [Value.ownBlock] at e
    rcases f4 with h1 | h1
    · have := hrw _ h1; omega
    · omega
  have HC5 : Hid (∀ j u, (vb p)[j]? = some u → w5.cell? ((⟨g2, 0, none⟩ : Addr).add j) = some u) := hidn (fun j u hj => by
    have h1 := HC2'.out j u hj
    rw [← h1, ladd_none]
    exact World.cell?_of_block (k5 g2 (by omega) hg42))
  obtain ⟨g6, c6, w6, hr6, s6, z6, k6, f6⟩ := s5.app hB p ⟨g2, 0, none⟩ c2 (by rw [← HPE.out]; omega) (by rw [List.length_append, List.length_append, hlp, ← HNZ.out, ← HHE.out, ← HPE.out]; omega) HC5.out
  rw [List.length_append, List.length_append, hlp, ← HNZ.out, ← HHE.out, ← HPE.out] at hr6 s6
  have HR5 := hidn hr5
  have HR6 := hidn hr6
  have HF : Hid (ChP w B row zs ls sm (.returned (.slice (some ⟨g6, 0, none⟩) (n + 4 + he + pl) c6)) w6) := hidn (by
    refine ⟨_, p, rfl, HPP.out, ?_, s6.bel, s6.kep⟩
    have e : zs ++ chunkB ls p = zs ++ putB N 4 ++ encN ls ++ p := by
      unfold chunkB
      rw [← HHE.out, ← HPE.out, ← HN.out]
      simp only [List.append_assoc]
    rw [e]
    exact s6.own)
  clear hr4 hr5 hr6 s4 s5 s6 k4 k5 k6 f4 f5 f6 z4 z5 z6 hrw hg42 o3 own3 b3 HC1 HC2 HC2' HC5
  go_wp2_with (at_builtin; first | (refine wpList_app_run2 rfl _ _ 25 25 rfl rfl (.slice va n vc) _ _ rfl rfl HR4.out ?_; clear HR4) | (refine wpList_app_run2 rfl _ _ 25 25 rfl rfl (.slice (some ⟨g4, 0, none⟩) (n + 4) c4) _ _ rfl rfl HR5.out ?_; clear HR5) | (refine wpList_app_run2 rfl _ _ 25 25 rfl rfl (.slice (some ⟨g5, 0, none⟩) (n + 4 + he) c5) _ _ rfl rfl HR6.out ?_; clear HR6))
  exact bodyPost_ret (v := .slice (some ⟨g6, 0, none⟩) (n + 4 + he + pl) c6) (by simp [results, Tryd.results31, go_sem]) rfl HF.out
end Go.Proofs.YtfgfkifdokeefaaDoor
