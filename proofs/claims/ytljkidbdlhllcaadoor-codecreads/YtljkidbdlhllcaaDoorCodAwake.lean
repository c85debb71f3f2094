/- The law's own calls: awake, cut, risen. -/
import Derived.Test.YtljkidbdlhllcaaDoorCodInj
namespace Go.Proofs.YtljkidbdlhllcaaDoor
open Go.RowKit Go.Joins
set_option linter.unusedVariables false
set_option linter.unusedSimpArgs false

/-- Encode, whatever samples: they may be. -/
theorem enc_dec {w w' : World} {zs : List Nat} {l : List Sam} {e : Ending} (hl : SamsOK l) (hc : canS l = true) (hp : IsPack zs (encS l)) (h : DPost w w' zs e) :
    ∃ a c, e = .returned (.tuple #[.slice a l.length c, .int .i64 0]) ∧ w'.ownsRow w.heap.size 26 2 (.slice a l.length c) l.length (vsm l) ∧ Below w.heap.size w w' := by
  obtain ⟨h1, h2⟩ := h
  rcases h1 with ⟨m, v, he, hcm, hm, hpm, hown⟩ | ⟨_, h3⟩
  · have := pack_inj hl hm hc hcm hp hpm
    subst this
    obtain ⟨a, c, rfl⟩ := own_slice hown
    exact ⟨a, c, he, hown, h2⟩
  · exact absurd hp (h3 l hl hc)
def twoL : List Sam := [⟨1, 5⟩, ⟨3, 5⟩]
theorem two_ok : SamsOK twoL := by
  intro i
  match i with
  | 0 => exact ⟨by decide, by decide, by decide⟩
  | 1 => exact ⟨by decide, by decide, by decide⟩
  | n + 2 => exact samOK_zero
theorem two_can : canS twoL = true := by rfl
theorem two_enc_len : (encS twoL).length ≤ 316 := encTo_len twoL 2
theorem two_sm (w : World) (b : Nat) (fr : Nat × Nat) (h : w.heap[b]? = some (.cells #[.int .i64 1, .int .u64 5, .int .i64 3, .int .u64 5] 26 fr)) : Sm w (some ⟨b, 0, none⟩) 2 twoL := by
  refine ⟨rfl, by decide, two_ok, (fun h => by cases h), fun x hx j hj => ?_⟩
  cases hx
  rw [add_none, add_none, cell_of_row _ _ _ _ _ _ h, cell_of_row _ _ _ _ _ _ h]
  match j, hj with
  | 0, _ => exact ⟨rfl, rfl⟩
  | 1, _ => exact ⟨rfl, rfl⟩
set_option maxHeartbeats 4000000 in
set_option maxRecDepth 100000 in
theorem awake11 (w : World) (hT : BitsTab w) (hD : DbTab w) :
    Calls Tryd.prog 16 #[] w fun e w' => e = .returned (.bool true) ∧ Below w.heap.size w w' := by
  have hs0 := two_sm (w.alloc (.cells #[.int .i64 1, .int .u64 5, .int .i64 3, .int .u64 5] 26)) w.heap.size _ (heap_alloc_new w _)
  have b0 : Below w.heap.size w (w.alloc (.cells #[.int .i64 1, .int .u64 5, .int .i64 3, .int .u64 5] 26)) := (Below.refl _ _).alloc (Nat.le_refl _) _
  go_enter Tryd.func16, Tryd.ntmps16
  go_wp2_with fail
  refine (senc_yes _ 2 2 twoL _ hs0 two_can (hT.below b0) (hD.below b0)).mono ?_
  rintro e w1 ⟨v1, z1, rfl, pk1, own1, b1⟩
  have B1 := b0.trans (b1.mono b0.size)
  obtain ⟨a1, c1, rfl⟩ := own_slice own1
  obtain ⟨a1', c1', hv, hB1⟩ := bs_of_own own1 pk1.2.1
  injection hv with e1 _ e3
  subst e1 e3
  have hr1 : z1.length ≤ c1 ∧ c1 ≤ maxLen := by
    rcases own1.2 with ⟨h1, h2⟩ | ⟨g, c, cur, h1, _, _, h2, h3, _⟩
    · injection h1 with h3 h4 h5
      exact ⟨by omega, by rw [h5]; exact Nat.zero_le _⟩
    · cases h1; exact ⟨h2, h3⟩
  have hz20 : z1.length ≤ 100 := by rw [pk1.1]; have := two_enc_len; unfold nb; omega
  go_wp2_with fail
  refine (sdec_any a1 z1.length c1 z1 _ hB1 (by omega) hr1.1 hr1.2 (hT.below B1)).mono ?_
  intro e w2 hdp
  obtain ⟨a2, c2, rfl, own2, b2⟩ := enc_dec two_ok two_can pk1 hdp
  have B2 := B1.trans (b2.mono B1.size)
  obtain ⟨a2', c2', hv2, _, hSm2⟩ := sm_of_own own2 two_ok
  injection hv2 with e1 _ e3
  subst e1 e3
  have el : twoL.length = 2 := rfl
  rw [el] at hSm2 ⊢
  obtain ⟨bb, off, rfl, hbb, hcl⟩ := hSm2.pos (by omega)
  have k1 : w2.cell? ⟨bb, off + 1 * 2, none⟩ = some (.int .i64 3) := (hcl 1 (by omega)).1
  clear hdp own2 hcl hSm2
  go_wp2_with fail
  exact bodyPost_ret (v := .bool true) (by simp [results, Tryd.results16, go_sem]) rfl ⟨rfl, B2⟩

set_option maxHeartbeats 2000000 in
set_option maxRecDepth 100000 in
theorem cut_any (a : Option Addr) (len cap : Nat) (w : World) (hl : len ≤ cap) (hc : cap ≤ maxLen) :
    Calls Tryd.prog 8 #[.slice a len cap] w fun e w' => e = .returned (.slice a (min len 60) cap) ∧ w' = w := by
  unfold maxLen at hc
  obtain ⟨m, hm⟩ : ∃ m, m = min len 60 := ⟨_, rfl⟩
  rw [← hm]
  have hmn : min (len : Int) 60 = (m : Int) := by omega
  have hmn2 : (if (60 : Int) < (len : Int) then (60 : Int) else (len : Int)) = (m : Int) := by split <;> omega
  have hml : (m : Int) ≤ (cap : Int) := by omega
  clear hm
  go_enter Tryd.func8, Tryd.ntmps8
  go_wp2_with fail
  exact bodyPost_ret (v := .slice a m cap) (by simp [results, Tryd.results8, go_sem]) rfl ⟨rfl, rfl⟩

/-- What risen answers: samples that rise. -/
def RPost (w w' : World) (v : Value) : Prop := ∃ l : List Sam, w'.ownsRow w.heap.size 26 2 v l.length (vsm l) ∧ SamsOK l ∧ riseS l ∧ l.length ≤ 60
set_option maxHeartbeats 4000000 in
set_option maxRecDepth 100000 in
theorem risen_any (first : Int) (a : Option Addr) (len cap : Nat) (l0 : List Sam) (w : World) (h : Sm w a len l0) (hl : len ≤ cap) (hc : cap ≤ maxLen) (hf : (Lit.int .i64 first).wf = true) :
    Calls Tryd.prog 20 #[.int .i64 first, .slice a len cap] w fun e w' => ∃ v, e = .returned v ∧ RPost w w' v ∧ Below w.heap.size w w' := by
  obtain ⟨i0, hi, hz0, hz1, hz2⟩ := info_parts Tryd.infoSam
  obtain ⟨M, hM⟩ : ∃ M, M = min len 60 := ⟨_, rfl⟩
  have hM60 : M ≤ 60 := by omega
  have hSm := h.take M (by omega)
  obtain ⟨tf, htf⟩ : ∃ tf, tf = u64 first := ⟨_, rfl⟩
  have rtf : IntKind.u64.wrap first = (tf : Int) := by rw [htf]; exact u64_eq first
  have tfl : tf < 18446744073709551616 := by rw [htf]; exact u64_lt first
  have HM := hidn hM
  clear hM htf
  go_enter Tryd.func20, Tryd.ntmps20
  go_wp2_with fail
  refine (cut_any a len cap _ hl hc).mono ?_
  rintro e w1 ⟨rfl, rfl⟩
  rw [← HM.out]
  go_wp2_with fail
  go_loopw [5, 6, 16] (fun ov tv iv wr => ∃ (k tn : Nat) (l : List Sam), k ≤ M ∧ iv = .int .i64 (k : Int) ∧ tv = .int .u64 (tn : Int) ∧ tn < 18446744073709551616 ∧ l.length ≤ k ∧ wr.ownsRow w.heap.size 26 2 ov l.length (vsm l) ∧ SamsOK l ∧ riseS l ∧ Below w.heap.size w wr) (fun _ _ iv _ => M - (intOf iv).toNat)
  case atStart => exact ⟨0, tf, [], Nat.zero_le _, rfl, rfl, tfl, Nat.le_refl _, World.ownsRow_lit (base := w.heap.size) (e := 26) (size := 2) w #[] 0 (Nat.le_refl _) (Nat.zero_le _) rfl, fun i => samOK_zero, fun k hk => by simp at hk, (Below.refl _ _).alloc (Nat.le_refl _) _⟩
  case round =>
    obtain ⟨k, tn, l, hk, rfl, rfl, tnl, hlk, hown, hso, hri, hbl⟩ := hrel
    have hsz := hbl.size
    by_cases hlt : k < M
    · obtain ⟨b, off, rfl, hb, hcl⟩ := hSm.pos (by omega)
      have hki : (k : Int) < (M : Int) := by omega
      obtain ⟨c0, c1⟩ := hcl k hlt
      have c0' := (hbl.cell (p := ⟨b, off + k * 2, none⟩) hb).trans c0
      have c1' := (hbl.cell (p := ⟨b, off + k * 2 + 1, none⟩) hb).trans c1
      have vkl := (hSm.2.2.1 k).2.2
      obtain ⟨tk, htk⟩ : ∃ tk, tk = (samD (l0.take M) k).t := ⟨_, rfl⟩
      obtain ⟨vk, hvk⟩ : ∃ vk, vk = (samD (l0.take M) k).v := ⟨_, rfl⟩
      rw [← htk] at c0'
      rw [← hvk] at c1' vkl
      clear htk hvk c0 c1 hcl
      obtain ⟨ao, co, rfl⟩ := own_slice hown
      obtain ⟨sp, hsp, spl⟩ : ∃ sp : Nat, (IntKind.u64.wrap tk / 2).tmod 1099511627776 = (sp : Int) ∧ sp < 1099511627776 := by
        refine ⟨((tk % 18446744073709551616 / 2) % 1099511627776).toNat, ?_, by omega⟩
        rw [IntKind.wrap_u64, Int.tmod_eq_emod_of_nonneg (by omega)]
        omega
      obtain ⟨n, hn⟩ : ∃ n, n = l.length := ⟨_, rfl⟩
      rw [← hn] at hlk hown ⊢
      have HNL := hidn hn
      have HSO := hidn hso
      have HRI := hidn hri
      clear hn hso hri
      by_cases hn0 : n = 0
      · have hpos : ¬ (0 : Int) < (n : Int) := by omega
        have hposb : decide ((0 : Int) < (n : Int)) = false := decide_eq_false hpos
        have HN0 := hidn hn0
        clear hn0
        obtain ⟨td, htd⟩ : ∃ td, wrap64 (tn : Int) = td := ⟨_, rfl⟩
        have tdr := wrap64_rng (tn : Int)
        rw [htd] at tdr
        go_wp2_with (at_builtin; refine wpList_append_own _ rfl _ _ 22 rfl w.heap.size 26 i0 (.agg #[.int .i64 0, .int .u64 0]) 2 16 Tryd.underlying22 hi hz0 hz1 hz2 rfl (by decide) _ _ _ rfl ((hown.alloc _).alloc _) ⟨wr.heap.size + 1, 0, none⟩ 1 1 [.int .i64 td, .int .u64 (vk : Int)] rfl rfl ?c1 ?c2 ?c3 ?c4 ?c5 ?_)
        try case c1 =>
          intro j u hj
          match j, hj with
          | 0, hj => simp at hj; subst hj; simp [Addr.add]
          | 1, hj => simp at hj; subst hj; simp [Addr.add]
        case c2 => first | exact ⟨rfl, rfl⟩ | (intro u hu; simp at hu; rcases hu with rfl | rfl <;> rfl)
        case c3 => unfold maxLen; omega
        case c4 => omega
        case c5 => first | omega | (simp; omega)
        intro v6 W6 hown6 hgrow6 _
        have hb6 : Below w.heap.size w W6 := ((hbl.alloc hsz _).alloc (by simp; omega) _).grown hgrow6 (by simp; omega) (fun k hk => (hown.lt k hk).1)
        have HO : Hid (W6.ownsRow w.heap.size 26 2 v6 (l ++ [(⟨td, vk⟩ : Sam)]).length (vsm (l ++ [(⟨td, vk⟩ : Sam)]))) := hidn (by
          rw [List.length_append, List.length_singleton, ← HNL.out, vsm_app]; exact hown6)
        clear hown6 hgrow6 hown
        have HL : Hid (SamsOK (l ++ [(⟨td, vk⟩ : Sam)]) ∧ riseS (l ++ [(⟨td, vk⟩ : Sam)])) := hidn ⟨sams_snoc HSO.out ⟨tdr.1, tdr.2, vkl⟩, rise_snoc HRI.out (fun h => absurd (by rw [← HNL.out]; exact HN0.out) h)⟩
        go_wp2_with fail
        go_roundw
        case rel => exact ⟨k + 1, tn, l ++ [(⟨td, vk⟩ : Sam)], by omega, by go_num, rfl, tnl, by rw [List.length_append, List.length_singleton, ← HNL.out]; omega, HO.out, HL.out.1, HL.out.2, hb6⟩
        case measure => simp [intOf]; omega
      · have hpos : (0 : Int) < (n : Int) := by omega
        have hposb : decide ((0 : Int) < (n : Int)) = true := decide_eq_true hpos
        obtain ⟨ao', co', hv, hnc, hSml⟩ := sm_of_own (l := l) (by rw [← HNL.out] at *; exact hown) HSO.out
        injection hv with e1 _ e3
        subst e1 e3
        obtain ⟨g, og, rfl, hg, hcg⟩ := hSml.pos (by omega)
        obtain ⟨j, hj⟩ : ∃ j, j = n - 1 := ⟨_, rfl⟩
        have rj : (n : Int) - 1 = (j : Int) := by omega
        have hjn : j < n := by omega
        have hjni : (j : Int) < (n : Int) := by omega
        have d0 : wr.cell? ⟨g, og + j * 2, none⟩ = some (.int .i64 (samD l j).t) := (hcg j hjn).1
        have HLA : Hid ((samD l j).t = (aheadS l l.length).t) := hidn (by rw [← HNL.out, show n = j + 1 from by omega]; rfl)
        obtain ⟨lt, hlt2⟩ : ∃ lt, lt = (samD l j).t := ⟨_, rfl⟩
        rw [← hlt2] at d0 HLA
        obtain ⟨t2, ht2⟩ : ∃ t2 : Nat, t2 = (tn + sp + 1) % 18446744073709551616 := ⟨_, rfl⟩
        have r1 : IntKind.u64.wrap (IntKind.u64.wrap ((tn : Int) + (sp : Int)) + 1) = (t2 : Int) := by rw [IntKind.wrap_u64, IntKind.wrap_u64]; omega
        have r2 : IntKind.u64.wrap ((tn : Int) + ((sp : Int) + 1)) = (t2 : Int) := by rw [IntKind.wrap_u64]; omega
        have t2l : t2 < 18446744073709551616 := by omega
        have tdr := wrap64_rng (t2 : Int)
        clear hj hcg hlt2 ht2
        by_cases hle : (wrap64 (t2 : Int)) ≤ lt
        · have hdl : decide ((wrap64 (t2 : Int)) ≤ lt) = true := decide_eq_true hle
          have HFIN : Hid (RPost w (wr.alloc (.cells #[.int .i64 tk, .int .u64 (vk : Int)] 26)) (.slice (some ⟨g, og, none⟩) n co) ∧ Below w.heap.size w (wr.alloc (.cells #[.int .i64 tk, .int .u64 (vk : Int)] 26))) := hidn ⟨⟨l, by rw [← HNL.out]; exact hown.alloc _, HSO.out, HRI.out, by rw [← HNL.out]; omega⟩, hbl.alloc hsz _⟩
          go_wp2_with fail
          go_ret
          exact ⟨_, rfl, HFIN.out.1, HFIN.out.2⟩
        · have hdl : decide ((wrap64 (t2 : Int)) ≤ lt) = false := decide_eq_false hle
          have hown8 := (hown.alloc (.cells #[.int .i64 tk, .int .u64 (vk : Int)] 26)).alloc (.cells #[.int .i64 (wrap64 (t2 : Int)), .int .u64 (vk : Int)] 26)
          go_wp2_with (at_builtin; refine wpList_append_own _ rfl _ _ 22 rfl w.heap.size 26 i0 (.agg #[.int .i64 0, .int .u64 0]) 2 16 Tryd.underlying22 hi hz0 hz1 hz2 rfl (by decide) (.slice (some ⟨g, og, none⟩) n co) n (vsm l) (by kernel_rfl) hown8 ⟨wr.heap.size + 1, 0, none⟩ 1 1 [.int .i64 (wrap64 (t2 : Int)), .int .u64 (vk : Int)] (by kernel_rfl) rfl ?e1 ?e2 ?e3 ?e4 ?e5 ?_)
          try case e1 =>
            intro j u hj
            match j, hj with
            | 0, hj => simp at hj; subst hj; simp [Addr.add]
            | 1, hj => simp at hj; subst hj; simp [Addr.add]
          case e2 => first | exact ⟨rfl, rfl⟩ | (intro u hu; simp at hu; rcases hu with rfl | rfl <;> rfl)
          case e3 => unfold maxLen; omega
          case e4 => omega
          case e5 => first | omega | (simp; omega)
          intro v6 W6 hown6 hgrow6 _
          have hb6 : Below w.heap.size w W6 := ((hbl.alloc hsz _).alloc (by simp; omega) _).grown hgrow6 (by simp; omega) (fun k hk => (hown.lt k hk).1)
          have HO : Hid (W6.ownsRow w.heap.size 26 2 v6 (l ++ [(⟨wrap64 (t2 : Int), vk⟩ : Sam)]).length (vsm (l ++ [(⟨wrap64 (t2 : Int), vk⟩ : Sam)]))) := hidn (by
            rw [List.length_append, List.length_singleton, ← HNL.out, vsm_app]; exact hown6)
          clear hown6 hgrow6 hown
          have HL : Hid (SamsOK (l ++ [(⟨wrap64 (t2 : Int), vk⟩ : Sam)]) ∧ riseS (l ++ [(⟨wrap64 (t2 : Int), vk⟩ : Sam)])) := hidn ⟨sams_snoc HSO.out ⟨tdr.1, tdr.2, vkl⟩, rise_snoc HRI.out (fun _ => by rw [← HLA.out]; show lt < (wrap64 (t2 : Int)); omega)⟩
          go_wp2_with fail
          go_roundw
          case rel => exact ⟨k + 1, t2, l ++ [(⟨wrap64 (t2 : Int), vk⟩ : Sam)], by omega, by go_num, rfl, t2l, by rw [List.length_append, List.length_singleton, ← HNL.out]; omega, HO.out, HL.out.1, HL.out.2, hb6⟩
          case measure => simp [intOf]; omega
    · have hke : ¬ (k : Int) < (M : Int) := by omega
      have HFIN : Hid (RPost w wr u5 ∧ Below w.heap.size w wr) := hidn ⟨⟨l, hown, hso, hri, by omega⟩, hbl⟩
      clear hown hso hri
      go_wp2_with fail
      go_ret
      exact ⟨_, rfl, HFIN.out.1, HFIN.out.2⟩
end Go.Proofs.YtljkidbdlhllcaaDoor
