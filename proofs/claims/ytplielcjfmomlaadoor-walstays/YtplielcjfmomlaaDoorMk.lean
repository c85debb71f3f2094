/- Pairs: Put of a new extent, and of one that is there, on a disk that stops; Fuse. -/
import Derived.Test.YtplielcjfmomlaaDoorMg
import Derived.Test.YtplielcjfmomlaaDoorDiskCrashD
import Derived.Test.YtplielcjfmomlaaDoorMh
namespace Go.Proofs.YtplielcjfmomlaaDoor
open Go.RowKit Go.Maps
set_option linter.unusedVariables false

set_option maxHeartbeats 1000000 in
theorem fuse_any (w : World) (d : Nat) (F : Nat → Prop) (N : Nat) (M : List UInt8 → List Ext) (free fuse : Int) (h : DiskOf w d F N M free fuse) (n : Nat) :
    Calls Tryd.prog 22 #[.pointer (some ⟨d, 0, none⟩), .int .i64 n] w fun e w' => e = .returned (.int .i64 0) ∧ DiskOf w' d F N M free n ∧ Gr F F w w' := by
  obtain ⟨bm, D, G, C, hI⟩ := h.is
  obtain ⟨c0, c2, f2⟩ := diskFuse hI
  have hFd := hI.2.1.1
  have HR := hidn (hI.fused n).of
  have h1 : decide ((n : Int) < 0) = false := by simp
  clear hI
  go_enter Tryd.func22, Tryd.ntmps22
  go_wp2_with fail
  refine (isMade_any _ d F N M free fuse h).mono ?_
  rintro e w1 ⟨rfl, rfl⟩
  go_wp2
  go_ret
  exact ⟨rfl, HR.out, Gr.of ((Keeps.refl _ _).setCell hFd _)⟩

end Go.Proofs.YtplielcjfmomlaaDoor

namespace Go.Proofs.YtplielcjfmomlaaDoor
open Go.RowKit Go.Maps
set_option linter.unusedVariables false

theorem fell_calm {x : Ext} (h : x.waits = false) (k : Int) : x.fell k = x := by
  unfold Ext.fell
  simp [h]

theorem fellL_at (kf : Int → Int) (l : List Ext) (i : Nat) : (fellL kf l)[i]? = (l[i]?).map fun x => x.fell (kf i) := by
  unfold fellL
  rw [List.getElem?_mapIdx]

theorem calmTo_new (k g : Nat) (ps : List (List Nat)) (n : Nat) : CalmTo (appM (fun _ => []) (segN k) 0 g ps) n := by
  intro t i x _ hx
  by_cases h1 : t = (fileA (segN k)).data.toList
  · rw [h1, appM_A] at hx
    exact fullW_calm _ _ _ _ x (by simpa using List.mem_of_getElem? hx)
  · by_cases h2 : t = (fileB (segN k)).data.toList
    · rw [h2, appM_B] at hx
      exact fullW_calm _ _ _ _ x (by simpa using List.mem_of_getElem? hx)
    · rw [appM_o _ _ _ _ _ _ h1 h2] at hx
      simp at hx

/-- Behind a crash the first extents are as they were. -/
theorem crash_pref {M M' : List UInt8 → List Ext} {n : Nat} (hc : CalmTo M n) (hp : Pref M M' n) (kf : List UInt8 → Int → Int) : Pref M (fun s => fellL (kf s) (M' s)) n := by
  intro t i hi
  show (fellL (kf t) (M' t))[i]? = _
  rw [fellL_at, hp t i hi]
  cases hx : (M t)[i]? with
  | none => rfl
  | some x => rw [Option.map_some, fell_calm (hc t i x hi hx)]

theorem crash_calm {l : List Ext} (h : Calm l) (kf : Int → Int) : fellL kf l = l := by
  refine List.ext_getElem? fun i => ?_
  rw [fellL_at]
  cases hx : l[i]? with
  | none => rfl
  | some x => rw [Option.map_some, fell_calm (h x (List.mem_of_getElem? hx))]

theorem stores_one (M : List UInt8 → List Ext) (s : ByteArray) (z : List Nat) (h1 : 1 ≤ z.length) (h2 : z.length ≤ 1000000) (h : Stored (fun i => getP M s (i : Int)) 0 z) : Stores (fun i => getP M s (i : Int)) 0 [z] := ⟨⟨h1, h2⟩, h, trivial⟩

theorem sumN_one (z : List Nat) : sumN [z] = needB (z.length : Int) := by simp [sumN]

theorem pref_get {M M' : List UInt8 → List Ext} {n : Nat} (h : Pref M M' n) (s : ByteArray) : ∀ i, i < n → getP M' s (i : Int) = getP M s (i : Int) := fun i hi => getP_eq (h _ i hi) (h _ i hi)

/-- The first record is read, wherever the second one's writing stopped. -/
theorem stays_first {M M' : List UInt8 → List Ext} {n : Nat} {z : List Nat} (hn : n = needB (z.length : Int)) (h1 : 1 ≤ z.length) (h2 : z.length ≤ 1000000) (hc : CalmTo M n) (hp : Pref M M' n) (hS : Stored (fun i => getP M (segN 1) (i : Int)) 0 z) (kf : List UInt8 → Int → Int) : readP (fun s => fellL (kf s) (M' s)) (segN 1) n = some [z] := by
  have h := stores_one M (segN 1) z h1 h2 hS
  have h' := h.congr (G' := fun i => getP (fun s => fellL (kf s) (M' s)) (segN 1) (i : Int)) n (pref_get (crash_pref hc hp kf) (segN 1)) (by rw [sumN_one, hn]; omega)
  have := readP_stores _ _ _ h'
  rw [sumN_one, ← hn] at this
  exact this

/-- Both records are read, where the second one was written. -/
theorem stays_both {M : List UInt8 → List Ext} {n g : Nat} {z y : List Nat} (hL : LogOK M (segN 1) n) (hn : n = needB (z.length : Int)) (h1 : 1 ≤ z.length) (h2 : z.length ≤ 1000000) (hc : CalmTo M n) (hS : Stored (fun i => getP M (segN 1) (i : Int)) 0 z) (hg : g ≤ 4611686018427387904) (k1 : 1 ≤ y.length) (k2 : y.length ≤ 1000000) (hb : n + needB (y.length : Int) ≤ 2147483647) (kf : List UInt8 → Int → Int) :
    readP (fun s => fellL (kf s) (appM M (segN 1) n g (partsB (recB y)) s)) (segN 1) (n + needB (y.length : Int)) = some [z, y] := by
  obtain ⟨M', hM'⟩ : ∃ M', M' = appM M (segN 1) n g (partsB (recB y)) := ⟨_, rfl⟩
  have hL' := hL.app (by omega) g (partsB (recB y))
  rw [← hM'] at hL' ⊢
  have hp : Pref M M' n := by
    intro t i hi
    rw [hM']
    by_cases e1 : t = (fileA (segN 1)).data.toList
    · rw [e1, appM_A, List.getElem?_append_left (by rw [← hL.lA]; exact hi)]
    · by_cases e2 : t = (fileB (segN 1)).data.toList
      · rw [e2, appM_B, List.getElem?_append_left (by rw [← hL.lB]; exact hi)]
      · rw [appM_o _ _ _ _ _ _ e1 e2]
  have hA : fellL (kf (fileA (segN 1)).data.toList) (M' (fileA (segN 1)).data.toList) = M' (fileA (segN 1)).data.toList := crash_calm hL'.cA _
  have hB : fellL (kf (fileB (segN 1)).data.toList) (M' (fileB (segN 1)).data.toList) = M' (fileB (segN 1)).data.toList := crash_calm hL'.cB _
  have hGG : ∀ i : Nat, getP (fun s => fellL (kf s) (M' s)) (segN 1) (i : Int) = getP M' (segN 1) (i : Int) := fun i => getP_eq (by show (fellL _ _)[i]? = _; rw [hA]) (by show (fellL _ _)[i]? = _; rw [hB])
  have s1 : Stores (fun i => getP M' (segN 1) (i : Int)) 0 [z] := (stores_one M (segN 1) z h1 h2 hS).congr n (pref_get hp (segN 1)) (by rw [sumN_one, hn]; omega)
  have s2 : Stored (fun i => getP M' (segN 1) (i : Int)) (0 + sumN [z]) y := by
    rw [Nat.zero_add, sumN_one, ← hn, hM']
    exact appM_stored M (segN 1) n g y hL.lA hL.lB hg (by rw [need_parts k1 k2]; exact hb)
  have s3 := s1.snoc k1 k2 s2
  have s4 := s3.congr (G' := fun i => getP (fun s => fellL (kf s) (M' s)) (segN 1) (i : Int)) (sumN [z, y]) (fun i _ => hGG i) (by show 0 + sumN ([z] ++ [y]) ≤ _; simp)
  have := readP_stores _ _ _ s4
  rw [show [z] ++ [y] = [z, y] from rfl, show sumN [z, y] = n + needB (y.length : Int) from by simp [sumN, hn]] at this
  exact this

theorem wr_other (st : St) (nm : List UInt8) (i : Nat) (z : List Nat) (t : List UInt8) (h : t ≠ nm) : (wrD st nm i z).1.M t = st.M t := by
  unfold wrD
  split
  · rfl
  · split
    · rfl
    · split
      · exact upd_other _ _ _ _ h
      · split
        · rfl
        · exact upd_other _ _ _ _ h

theorem fold_other (s : ByteArray) (g : Nat) (t : List UInt8) (h : t ≠ s.data.toList) : ∀ (l : List (List Nat × Nat)) (acc : St × Int), (l.foldl (wrStep s g) acc).1.M t = acc.1.M t
  | [], acc => rfl
  | q :: l, acc => by
    rw [List.foldl_cons, fold_other s g t h l]
    unfold wrStep
    split
    · exact wr_other _ _ _ _ _ h
    · rfl

theorem half_other (st : St) (s : ByteArray) (at' g : Nat) (ps : List (List Nat)) (t : List UInt8) (h : t ≠ s.data.toList) : (halfD st s at' g ps).1.M t = st.M t := by
  have h1 : (wrAll st s at' g ps).1.M t = st.M t := fold_other s g t h _ (st, 0)
  unfold halfD
  split
  · unfold syD
    split
    · exact h1
    · split
      · exact h1
      · show upd _ _ _ t = _
        rw [upd_other _ _ _ _ h]
        exact h1
  · exact h1

theorem app_other (st : St) (s : ByteArray) (at' g : Nat) (ps : List (List Nat)) (t : List UInt8) (hA : t ≠ (fileA s).data.toList) (hB : t ≠ (fileB s).data.toList) : (appD st s at' g ps).1.M t = st.M t := by
  have h1 := half_other st (fileA s) at' g ps t hA
  unfold appD
  split
  · rw [half_other _ _ _ _ _ _ hB]
    exact h1
  · exact h1
end Go.Proofs.YtplielcjfmomlaaDoor
