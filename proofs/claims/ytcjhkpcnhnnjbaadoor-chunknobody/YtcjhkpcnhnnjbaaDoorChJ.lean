/- dryrotlaw12.awake. -/
import Derived.Test.YtcjhkpcnhnnjbaaDoorMd
import Derived.Test.YtcjhkpcnhnnjbaaDoorChI
namespace Go.Proofs.YtcjhkpcnhnnjbaaDoor
open Go.RowKit Go.Joins
open Cd (Sam Sm canS encS samD SamOK IsPack BitsTab DbTab SamsOK vsm)
set_option linter.unusedVariables false
def awLab : List Lab := [(⟨#[97]⟩, ⟨#[120]⟩)]
def awSam : List Sam := [⟨1, 2⟩]
def awSer (b : Nat) : Ser := ⟨some ⟨b, 0, none⟩, 1, 1, awLab, some ⟨b + 1, 0, none⟩, 1, 1, awSam⟩
theorem aw_ls (w : World) (b : Nat) (h : w.heap[b]? = some (.cells #[.string ⟨#[97]⟩, .string ⟨#[120]⟩] 72 (0, 0))) : Ls w (some ⟨b, 0, none⟩) 1 awLab := by
  refine ⟨rfl, by decide, ?_, (fun h => by cases h), ?_⟩
  · intro i
    match i with
    | 0 => exact ⟨by decide, by decide⟩
    | i + 1 => exact ⟨by show (ByteArray.empty).size ≤ _; decide, by show (ByteArray.empty).size ≤ _; decide⟩
  · intro x hx j hj
    cases hx
    obtain rfl : j = 0 := by omega
    rw [ladd_none, ladd_none]
    refine ⟨?_, ?_⟩
    · rw [cell_of_row _ _ _ _ _ _ h]; rfl
    · rw [cell_of_row _ _ _ _ _ _ h]; rfl
theorem aw_samsOK : SamsOK awSam := by
  intro i
  match i with
  | 0 => exact ⟨by decide, by decide, by decide⟩
  | i + 1 => exact Cd.samOK_zero
theorem aw_sm (w : World) (b : Nat) (h : w.heap[b]? = some (.cells #[.int .i64 1, .int .u64 2] 49 (0, 0))) : Sm w (some ⟨b, 0, none⟩) 1 awSam := by
  refine ⟨rfl, by decide, aw_samsOK, (fun h => by cases h), ?_⟩
  intro x hx j hj
  cases hx
  obtain rfl : j = 0 := by omega
  rw [ladd_none, ladd_none]
  refine ⟨?_, ?_⟩
  · rw [cell_of_row _ _ _ _ _ _ h]; rfl
  · rw [cell_of_row _ _ _ _ _ _ h]; rfl
theorem aw_canOK : canOK awLab = true := by decide +kernel
theorem aw_canS : canS awSam = true := by decide +kernel
theorem aw_can (b : Nat) : canSr ([awSer b].map Ser.pl) = true := by
  show canSr [(awLab, awSam)] = true
  decide +kernel
theorem aw_one (b : Nat) : allParts [awSer b] = [partAt (awSer b) 0] := by
  show partsOf (awSer b) ++ [] = _
  rw [List.append_nil]
  unfold partsOf
  rw [show ((awSer b).sl + 19) / 20 = 1 from (by show (1 + 19) / 20 = 1; decide)]
  rfl
theorem aw_parts (b : Nat) : (allParts [awSer b]).map Ser.pl = [(awLab, awSam)] := by rw [aw_one]; rfl
theorem aw_partsL (b : Nat) : (allParts [awSer b]).length = 1 := by rw [aw_one]; rfl
theorem cur_ne {w : World} {g b off len cap : Nat} {zs : List Nat} {at' er : Int} (h : Cur w g (some ⟨b, off, none⟩) len cap zs at' er) (h0 : 0 < len) : b ≠ g := fun e => by
  have hc := h.2.1.2.2.2.2 _ rfl 0 h0
  rw [ladd_none, e, cell_of_row _ _ _ _ _ _ h.1] at hc
  have := Array.mem_of_getElem? hc
  simp at this
set_option maxHeartbeats 4000000 in
set_option maxRecDepth 100000 in
theorem awake12 (w : World) (hT : BitsTab w) (hD : DbTab w) : Calls Tryd.prog 15 #[] w fun e w' => e = .returned (.bool true) ∧ Below w.heap.size w w' := by
  obtain ⟨w1, hw1⟩ : ∃ w1, w1 = w.alloc (.cells #[.string ⟨#[97]⟩, .string ⟨#[120]⟩] 72) := ⟨_, rfl⟩
  obtain ⟨w2, hw2⟩ : ∃ w2, w2 = w1.alloc (.cells #[.int .i64 1, .int .u64 2] 49) := ⟨_, rfl⟩
  obtain ⟨w3, hw3⟩ : ∃ w3, w3 = w2.alloc (.cells #[.slice (some ⟨w.heap.size, 0, none⟩) 1 1, .slice (some ⟨w.heap.size + 1, 0, none⟩) 1 1] 55) := ⟨_, rfl⟩
  have b1 : Below w.heap.size w w1 := by rw [hw1]; exact (Below.refl _ w).alloc (Nat.le_refl _) _
  have b2 : Below w1.heap.size w1 w2 := by rw [hw2]; exact (Below.refl _ w1).alloc (Nat.le_refl _) _
  have b3 : Below w2.heap.size w2 w3 := by rw [hw3]; exact (Below.refl _ w2).alloc (Nat.le_refl _) _
  have s1 : w1.heap.size = w.heap.size + 1 := by rw [hw1]; simp
  have s2 : w2.heap.size = w.heap.size + 2 := by rw [hw2]; simp; omega
  have B2 := b1.trans (b2.mono b1.size)
  have B3 := B2.trans (b3.mono B2.size)
  have q1 : w3.heap[w.heap.size]? = some (.cells #[.string ⟨#[97]⟩, .string ⟨#[120]⟩] 72 (0, 0)) := by
    rw [b3.block _ (by omega), b2.block _ (by omega), hw1]; exact heap_alloc_new w _
  have q2 : w3.heap[w.heap.size + 1]? = some (.cells #[.int .i64 1, .int .u64 2] 49 (0, 0)) := by
    rw [b3.block _ (by omega), hw2, ← s1]; exact heap_alloc_new w1 _
  have q3 : w3.heap[w.heap.size + 2]? = some (.cells #[.slice (some ⟨w.heap.size, 0, none⟩) 1 1, .slice (some ⟨w.heap.size + 1, 0, none⟩) 1 1] 55 (0, 0)) := by
    rw [hw3, ← s2]; exact heap_alloc_new w2 _
  have hS : Srs w3 (some ⟨w.heap.size + 2, 0, none⟩) 1 [awSer w.heap.size] := by
    refine ⟨rfl, by decide, (fun h => by cases h), fun s hs => ?_, fun x hx j s hs k v hk => ?_⟩
    · obtain rfl := List.mem_singleton.1 hs
      exact ⟨aw_ls w3 _ q1, by show 1 ≤ 140737488355328; decide, aw_sm w3 _ q2, by show 1 ≤ 1; decide, by show 1 ≤ maxLen; decide⟩
    · cases hx
      match j, hs with
      | 0, hs =>
        simp at hs
        subst hs
        rw [ladd_none, cell_of_row _ _ _ _ _ _ q3]
        simpa [Ser.cells, awSer] using hk
  have HE := hidn (chEncode_yes (some ⟨w.heap.size + 2, 0, none⟩) 1 1 [awSer w.heap.size] w3 hS (aw_can _) (by rw [aw_partsL]; decide) (hT.below B3) (hD.below B3))
  have HW : Hid (((w.alloc (.cells #[.string ⟨#[97]⟩, .string ⟨#[120]⟩] 72)).alloc (.cells #[.int .i64 1, .int .u64 2] 49)).alloc (.cells #[.slice (some ⟨w.heap.size, 0, none⟩) 1 1, .slice (some ⟨w.heap.size + 1, 0, none⟩) 1 1] 55) = w3) := hidn (by rw [hw3, hw2, hw1])
  clear hw1 hw2 hw3 b1 b2 b3 s1 s2 B2 q1 q2 q3 hS
  go_enter Tryd.func15, Tryd.ntmps15
  go_wp2_with fail
  rw [HW.out]
  refine HE.out.mono ?_
  rintro e w4 ⟨v, zs, rfl, hst, hown, hzl, b4⟩
  rw [aw_partsL] at hzl
  rw [aw_parts] at hst
  obtain ⟨p, r, hp, rfl, hr⟩ := hst
  obtain rfl : r = [] := hr
  rw [List.append_nil] at hown hzl
  have hTk : TkOK (chunkB awLab p) awLab awSam (chunkB awLab p).length := by
    have := TkOK.chunk (r := []) aw_canOK hp aw_canS aw_samsOK (by decide) (by decide)
    rw [List.append_nil] at this
    exact this
  have h4z : 4 ≤ (chunkB awLab p).length := hTk.1
  have B4 := B3.trans (b4.mono B3.size)
  obtain ⟨zs, hzs⟩ : ∃ zs, zs = chunkB awLab p := ⟨_, rfl⟩
  rw [← hzs] at hown hzl hTk h4z
  have hz256 : ∀ x ∈ zs, x < 256 := by
    rw [hzs]
    unfold chunkB
    intro x hx
    rcases List.mem_append.1 hx with hx | hx
    · exact putB_lt _ _ x hx
    · rcases List.mem_append.1 hx with hx | hx
      · exact encTo_lt awLab aw_canOK _ (Nat.le_refl _) x hx
      · exact hp.2.1 x hx
  obtain ⟨a4, c4, rfl, hB4, hc4, hcm4, _⟩ := bs_ownC hown hz256 rfl
  obtain ⟨zl, hzle⟩ : ∃ zl, zl = zs.length := ⟨_, rfl⟩
  have HO := hidn (open_any a4 zs.length c4 zs 0 w4 hB4 (by omega))
  rw [← hzle] at HO ⊢
  have HZL := hidn hzle
  have HTK := hidn hTk
  have hT4 := hT.below B4
  rw [← hzle] at h4z
  clear hown hB4 hz256 hzs hTk hzle hc4 hcm4 hp
  go_wp2_with fail
  refine HO.out.mono ?_
  rintro e w5 ⟨g, a5, c5, rfl, hcur, hg, hab, b5⟩
  have B5 := B4.trans (b5.mono B4.size)
  rw [← HZL.out] at hcur
  obtain ⟨b6, o6, rfl, _, _⟩ := hcur.2.1.pos (by omega)
  have HN := hidn (next_any g b6 o6 zl c5 zs (atZ 0) 0 w5 hcur (by omega) (cur_ne hcur (by omega)) (hT4.below b5))
  clear hab
  go_wp2_with fail
  refine HN.out.mono ?_
  rintro e w6 ⟨hgr, hcase⟩
  have B6 : Below w.heap.size w w6 := B5.grown hgr B5.size (fun k hk => by cases hk; exact Nat.le_trans B4.size hg)
  rcases hcase with ⟨s, n, a, cp, hok, rfl, hsok, _⟩ | ⟨hno, _⟩
  · obtain ⟨e1, e2, e3⟩ := hok.same HTK.out
    obtain ⟨la, ll, lc, ls, sa, sl, sc, sm⟩ := s
    simp only at e1 e2 hsok ⊢
    obtain ⟨_, _, hSm, _⟩ := hsok
    obtain rfl : sl = 1 := by
      have := hSm.1
      simp only at this
      rw [e2] at this
      exact this.symm
    obtain rfl : n = zl := by rw [e3, HZL.out]
    generalize (samD sm 0).t = t0
    generalize (samD sm (1 - 1)).t = t1
    clear hSm e1 e2 e3 hok HTK HZL
    go_wp2_with fail
    exact bodyPost_ret (v := .bool true) (by simp [results, Tryd.results15, go_sem]) rfl ⟨rfl, B6.alloc B6.size _⟩
  · exact absurd HTK.out (hno _ _ _)
end Go.Proofs.YtcjhkpcnhnnjbaaDoor
