/- MatchOwn: the law. -/
import Derived.Test.YtobjpofdchjciaaDoorMatH
import Derived.Test.YtobjpofdchjciaaDoorLabRefCan
namespace Go.Proofs.YtobjpofdchjciaaDoor
open Go.RowKit Go.Joins
set_option linter.unusedVariables false
theorem less_at (ls : List Lab) (h : canOK ls = true) : ∀ (j i : Nat), i < j → j < ls.length → Op.bytesLess (labD ls i).1.toList (labD ls j).1.toList = true := by
  intro j
  induction j with
  | zero => intro i h1; omega
  | succ j ih =>
    intro i h1 h2
    have hc := ((canOK_iff ls).1 h).2.2 (j + 1) h2
    have hl : Op.bytesLess (labD ls j).1.toList (labD ls (j + 1)).1.toList = true := by
      unfold canAt at hc
      simp at hc
      exact hc.2
    by_cases e : i = j
    · subst e; exact hl
    · exact less_trans _ _ _ (ih i (by omega) (by omega)) hl
theorem getL_from (ls : List Lab) (h : canOK ls = true) (i : Nat) (hi : i < ls.length) : ∀ d k, k + d = i → getL (ls.drop k) (labD ls i).1 = (labD ls i).2 := by
  intro d
  induction d with
  | zero =>
    intro k hk
    obtain rfl : k = i := by omega
    rw [getL_step ls _ k hi]
    simp
  | succ d ih =>
    intro k hk
    rw [getL_step ls _ k (by omega)]
    have hl := less_at ls h i k (by omega) hi
    have hne : ¬ ((labD ls k).1.toList == (labD ls i).1.toList) = true := by
      intro e
      rw [beq_iff_eq.1 e, less_irrefl] at hl
      cases hl
    rw [if_neg hne]
    exact ih (k + 1) (by omega)
theorem getL_own (ls : List Lab) (h : canOK ls = true) (i : Nat) (hi : i < ls.length) : getL ls (labD ls i).1 = (labD ls i).2 := getL_from ls h i hi i 0 (by omega)
def ownM (ls : List Lab) : List Mat := (ls.take 6).map fun x => ⟨1, x.1, x.2⟩
theorem ownM_length (ls : List Lab) : (ownM ls).length = min 6 ls.length := by simp [ownM]
theorem ownM_at (ls : List Lab) (j : Nat) (hj : j < (ownM ls).length) : (ownM ls)[j]? = some ⟨1, (labD ls j).1, (labD ls j).2⟩ := by
  rw [ownM_length] at hj
  unfold ownM labD
  rw [List.getElem?_map, List.getElem?_take, if_pos (by omega), List.getElem?_eq_getElem (by omega), List.getD_eq_getElem?_getD, List.getElem?_eq_getElem (by omega)]
  rfl
theorem own_all (ls : List Lab) (h : canOK ls = true) : allM (ownM ls) ls = true := by
  unfold allM
  rw [List.all_eq_true]
  intro m hm
  obtain ⟨j, hj, rfl⟩ := List.mem_iff_getElem.1 hm
  have e := ownM_at ls j hj
  rw [List.getElem?_eq_getElem hj, Option.some.injEq] at e
  rw [e]
  unfold oneM
  rw [if_pos rfl]
  show ((getL ls (labD ls j).1).toList == (labD ls j).2.toList) = true
  rw [getL_own ls h j (by rw [ownM_length] at hj; omega)]
  simp
theorem own_can (ls : List Lab) (h : canOK ls = true) : canL (ownM ls) = true := by
  unfold canL
  rw [Bool.and_eq_true, List.all_eq_true]
  refine ⟨decide_eq_true (by rw [ownM_length]; omega), ?_⟩
  intro m hm
  obtain ⟨j, hj, rfl⟩ := List.mem_iff_getElem.1 hm
  have e := ownM_at ls j hj
  rw [List.getElem?_eq_getElem hj, Option.some.injEq] at e
  rw [e]
  have hc := ((canOK_iff ls).1 h).2.2 j (by rw [ownM_length] at hj; omega)
  unfold canAt at hc
  simp at hc
  unfold canM valM
  rw [if_pos (.inl rfl)]
  simp [hc.1.1, hc.1.2]
def neverB : ByteArray := ⟨#[110, 101, 118, 101, 114, 32]⟩
theorem own_other (ls : List Lab) (h : canOK ls = true) (k : Nat) (hk : k < (ownM ls).length) (V : ByteArray) (hV : V.toList.length ≠ (labD ls k).2.toList.length) : allM ((ownM ls).set k ⟨1, (labD ls k).1, V⟩) ls = false := by
  unfold allM
  rw [Bool.eq_false_iff]
  intro ht
  rw [List.all_eq_true] at ht
  have hm := ht ⟨1, (labD ls k).1, V⟩ (List.mem_iff_getElem.2 ⟨k, by rw [List.length_set]; exact hk, by simp⟩)
  unfold oneM at hm
  rw [if_pos rfl] at hm
  have hm2 : ((getL ls (labD ls k).1).toList == V.toList) = true := hm
  rw [getL_own ls h k (by rw [ownM_length] at hk; omega)] at hm2
  rw [beq_iff_eq] at hm2
  exact hV (by rw [hm2])
theorem kmod (x : Int) (n : Nat) (hn : 0 < n) (hn8 : n ≤ 6) : ∃ k : Nat, wrap64 ((IntKind.u64.wrap x).tmod (n : Int)) = (k : Int) ∧ k < n := by
  have hU : 0 ≤ IntKind.u64.wrap x := by rw [IntKind.wrap_u64]; omega
  have h1 : (IntKind.u64.wrap x).tmod (n : Int) = IntKind.u64.wrap x % (n : Int) := Int.tmod_eq_emod_of_nonneg hU
  have h2 := Int.emod_nonneg (IntKind.u64.wrap x) (show (n : Int) ≠ 0 by omega)
  have h3 := Int.emod_lt_of_pos (IntKind.u64.wrap x) (show (0 : Int) < (n : Int) by omega)
  rw [h1]
  generalize IntKind.u64.wrap x % (n : Int) = r at *
  refine ⟨r.toNat, ?_, by omega⟩
  unfold wrap64
  omega
theorem mvs_set : ∀ (l : List Mat) (k : Nat) (m : Mat) (V : ByteArray), l[k]? = some m → (mvs l).set (k * 3 + 2) (.string V) = mvs (l.set k ⟨m.k, m.n, V⟩) := by
  intro l
  induction l with
  | nil => intro k m V h; simp at h
  | cons a t ih =>
    intro k m V h
    cases k with
    | zero =>
      simp at h
      subst h
      simp [mvs]
    | succ k =>
      have := ih k m V (by simpa using h)
      have e : (k + 1) * 3 + 2 = (k * 3 + 2) + 3 := by omega
      have hm : mvs (a :: t) = Value.int .i64 a.k :: Value.string a.n :: Value.string a.v :: mvs t := rfl
      rw [hm, e, List.set_cons_succ, List.set_cons_succ, List.set_cons_succ, this]
      rfl
theorem mvs_length (l : List Mat) : (mvs l).length = l.length * 3 := by
  induction l with
  | nil => rfl
  | cons a t ih =>
    have hm : mvs (a :: t) = Value.int .i64 a.k :: Value.string a.n :: Value.string a.v :: mvs t := rfl
    rw [hm]
    simp [ih]
    omega
theorem mvs_one (l : List Mat) : ∀ u ∈ mvs l, u.oneCell' = true := by
  intro u hu
  unfold mvs at hu
  obtain ⟨r, hr, hu⟩ := List.mem_flatten.1 hu
  obtain ⟨m, _, rfl⟩ := List.mem_map.1 hr
  simp at hu
  rcases hu with rfl | rfl | rfl <;> rfl
set_option maxHeartbeats 1000000 in
theorem matClone_any (w : World) (x : Addr) (len cap : Nat) (xs : List Value) (hl : xs.length = len * 3) (hc : ∀ j u, xs[j]? = some u → w.cell? (x.add j) = some u) (h1 : ∀ u ∈ xs, u.oneCell' = true) (hm : len ≤ 1000000) :
    Calls Tryd.prog 10 #[.slice (some x) len cap] w fun e w' => ∃ v, e = .returned v ∧ w'.ownsRow w.heap.size 24 3 v len xs ∧ Below w.heap.size w w' := by
  obtain ⟨i0, z, hi, hz0, hz1, hz2, hzc⟩ := maInfo
  have heq := fun (wx : World) (aa : Option Addr) (n c : Nat) => Lib.run_eql_slice_nil (P := Tryd.prog) wx 27 24 aa n c 0 0 Tryd.underlying27
  have hown := World.ownsRow_lit (base := w.heap.size) (e := 24) (size := 3) w #[] 0 (Nat.le_refl _) (Nat.zero_le _) rfl
  have HC := hidn hc
  have H1 := hidn h1
  clear hc h1
  go_enter Tryd.func10, Tryd.ntmps10
  go_wp2_with (at_builtin; refine wpList_append_own _ rfl _ _ 27 rfl w.heap.size 24 i0 z 3 40 Tryd.underlying27 hi hz0 hz1 hz2 hzc (by decide) _ 0 [] rfl hown x len cap xs rfl hl ?c1 H1.out (by unfold maxLen; omega) (by omega) (by simp) ?_)
  case c1 =>
    intro j u hj
    exact Lib.cell?_alloc_some _ (HC.out j u hj)
  intro v' w1 hown1 hgrow1 _
  clear hown
  go_wp2
  go_ret
  refine ⟨_, rfl, by simpa using hown1, ?_⟩
  refine ((Below.refl _ _).alloc (Nat.le_refl _) _).grown hgrow1 (by simp) ?_
  intro k hk
  simp [Value.ownBlock] at hk
  omega
set_option maxHeartbeats 2000000 in
set_option maxRecDepth 100000 in
theorem matchOwn_walk (la : Option Addr) (llen lcap : Nat) (ls : List Lab) (x : Int) (w : World) (ht : SignTab w) (hL : Ls w la llen ls) (hr : llen ≤ 140737488355328) (hcap : llen ≤ lcap) :
    Calls Tryd.prog 4 #[.slice la llen lcap, .int .i64 x] w fun e w' => e = .returned (.bool true) ∧ Below w.heap.size w w' := by
  obtain ⟨i0, z, hi, hz, hzs, hby, hzc⟩ := maInfo
  obtain ⟨c, hc⟩ : ∃ c, c = canOK ls := ⟨_, rfl⟩
  have HC := hidn hc
  clear hc
  go_enter Tryd.func4, Tryd.ntmps4
  go_wp2_with fail
  refine (refCan_any la llen lcap ls _ hL hr).mono ?_
  rintro e w1 ⟨rfl, b1⟩
  rw [← HC.out]
  cases c with
  | false =>
    go_wp2_with fail
    refine (awake9 _ (ht.below b1)).mono ?_
    rintro e w2 ⟨rfl, b2⟩
    have B2 := b1.trans (b2.mono b1.size)
    go_wp2_with fail
    exact bodyPost_ret (v := .bool true) (by simp [results, Tryd.results4, go_sem]) rfl ⟨rfl, B2⟩
  | true =>
    have hl0 := ((canOK_iff ls).1 HC.out.symm).1
    have hl8 := ((canOK_iff ls).1 HC.out.symm).2.1
    rw [hL.1] at hl0 hl8
    have hlen := hidn hL.1
    obtain ⟨lb, lo, rfl, hlb, hcells⟩ := hL.pos hl0
    obtain ⟨n, hn⟩ : ∃ n, n = min 6 llen := ⟨_, rfl⟩
    have hmin : min (llen : Int) 6 = (n : Int) := by omega
    have hc0 : ¬ lcap = 0 := by omega
    have hnc : (n : Int) ≤ (lcap : Int) := by omega
    have HN := hidn hn
    have HNL : Hid ((ownM ls).length = n) := hidn (by rw [ownM_length, hL.1, hn])
    have hn0 : 0 < n := by omega
    have hn8 : n ≤ 6 := by omega
    clear hn
    have HCE := hidn hcells
    clear hcells
    go_wp2_with fail
    go_loopw [5, 20] (fun mv kv wr => ∃ (j : Nat) (v : Value), j ≤ n ∧ mv = v ∧ kv = .int .i64 (j : Int) ∧ wr.ownsRow w1.heap.size 24 3 v j (mvs ((ownM ls).take j)) ∧ Below w1.heap.size w1 wr) (fun _ kv _ => n - (intOf kv).toNat)
    case atStart => exact ⟨0, _, by omega, rfl, rfl, World.ownsRow_nil _ _ _ _, Below.refl _ _⟩
    case round =>
      obtain ⟨j, v, hj, rfl, rfl, hown, hb⟩ := hrel
      obtain ⟨sa, sc, hsv⟩ : ∃ sa sc, u5 = .slice sa j sc := by
        rcases hown.2 with ⟨h1, h2⟩ | ⟨g, cap, cur, h1, _⟩
        · exact ⟨none, 0, by rw [h1, h2]⟩
        · exact ⟨_, _, h1⟩
      subst hsv
      have Bw := b1.trans (hb.mono b1.size)
      by_cases hlt : j < n
      · have hlt2 : (j : Int) < (n : Int) := by omega
        have hjl : j < llen := by have := HN.out; omega
        obtain ⟨c0, c1⟩ := HCE.out j hjl
        have d0 := (Bw.cell (p := ⟨lb, lo + j * 2, none⟩) hlb).trans c0
        have d1 := (Bw.cell (p := ⟨lb, lo + j * 2 + 1, none⟩) hlb).trans c1
        have hnext : Hid (mvs ((ownM ls).take (j + 1)) = mvs ((ownM ls).take j) ++ [.int .i64 1, .string (labD ls j).1, .string (labD ls j).2]) := hidn (by
          rw [List.take_add_one, ownM_at ls j (by rw [HNL.out]; exact hlt)]
          simp [mvs])
        clear c0 c1
        generalize labD ls j = lj at *
        obtain ⟨nm, vl⟩ := lj
        simp only at hnext d0 d1
        have own3 := own_belowS hown ((Below.refl _ wr).alloc (Nat.le_refl _) (.cells #[.string nm, .string vl] 32))
        have own4 := own_belowS own3 ((Below.refl _ _).alloc (Nat.le_refl _) (.cells #[.int .i64 1, .string nm, .string vl] 24))
        have hs2 : w1.heap.size ≤ wr.heap.size := hb.size
        clear own3 hown
        go_wp2_with (at_builtin; refine wpList_append_own _ rfl _ _ 27 rfl w1.heap.size 24 i0 z 3 40 Tryd.underlying27 hi hz hzs hby hzc (by decide) _ j (mvs ((ownM ls).take j)) rfl own4 ⟨wr.heap.size + 1, 0, none⟩ 1 1 [.int .i64 1, .string nm, .string vl] rfl rfl ?c1 ?c2 ?c3 ?c4 ?c5 ?_)
        case c1 =>
          intro i u hi
          match i, hi with
          | 0, hi => simp at hi; subst hi; simp [Addr.add]
          | 1, hi => simp at hi; subst hi; simp [Addr.add]
          | 2, hi => simp at hi; subst hi; simp [Addr.add]
        case c2 =>
          intro u hu
          simp at hu
          rcases hu with rfl | rfl | rfl <;> rfl
        case c3 => unfold maxLen; omega
        case c4 => omega
        case c5 => simp; omega
        intro v' w3 own5 hgrow3 _
        have B3 : Below w1.heap.size w1 w3 := ((hb.alloc hs2 _).alloc (by simp; omega) _).grown hgrow3 (by simp; omega) (fun k hk => (own4.lt k hk).1)
        have HO : Hid (w3.ownsRow w1.heap.size 24 3 v' (j + 1) (mvs ((ownM ls).take (j + 1)))) := hidn (by rw [hnext.out]; exact own5)
        clear own4 own5 hgrow3
        go_wp2_with fail
        exact ⟨⟨j + 1, _, by omega, rfl, by go_num, HO.out, B3⟩, by simp [intOf]; omega⟩
      · have hlt2 : ¬ (j : Int) < (n : Int) := by omega
        obtain rfl : j = n := by omega
        have htk : (ownM ls).take j = ownM ls := List.take_of_length_le (by rw [HNL.out]; exact Nat.le_refl _)
        rw [htk] at hown
        obtain ⟨mg, rfl⟩ : ∃ g, sa = some ⟨g, 0, none⟩ := by
          rcases hown.2 with ⟨h1, h2⟩ | ⟨g, cap, cur, h1, _⟩
          · omega
          · cases h1; exact ⟨g, rfl⟩
        have hsz : ∀ m ∈ ownM ls, m.n.size ≤ maxLen ∧ m.v.size ≤ maxLen := fun m hm => by
          obtain ⟨i, hi, rfl⟩ := List.mem_iff_getElem.1 hm
          have e := ownM_at ls i hi
          rw [List.getElem?_eq_getElem hi, Option.some.injEq] at e
          rw [e]
          exact hL.2.2.1 i
        obtain ⟨a2, c2, hac, hms⟩ := mss_of_own hown HNL.out hsz
        cases hac
        obtain ⟨k, hk, hklt⟩ := kmod x j hn0 hn8
        have HCELL := hidn (fun i u (h : (mvs (ownM ls))[i]? = some u) => hown.cells (g := mg) rfl i u h)
        have HMS := hidn hms
        have HSZ := hidn hsz
        clear hms hsz htk hown
        have hj0 : ¬ ((j : Int) = 0) := by omega
        have hj0' : ¬ (j = 0) := by omega
        go_wp2_with fail
        refine (matClone_any _ ⟨mg, 0, none⟩ j sc (mvs (ownM ls)) (by rw [mvs_length, HNL.out]) HCELL.out (mvs_one _) (by omega)).mono ?_
        rintro e w2 ⟨v2, rfl, hown2, b2⟩
        obtain ⟨g2, c2, rfl, hg2⟩ : ∃ g c, v2 = .slice (some ⟨g, 0, none⟩) j c ∧ wr.heap.size ≤ g := by
          rcases hown2.2 with ⟨h1, h2⟩ | ⟨g, cap, cur, h1, hg, _⟩
          · omega
          · exact ⟨g, cap, h1, hg⟩
        have hkl : k < (ownM ls).length := by rw [HNL.out]; exact hklt
        have hmk := ownM_at ls k hkl
        have hck := own_at hown2 (k * 3 + 2) _ (mvs_get _ _ _ hmk).2.2
        have hfk := own_unfrozen hown2 (k * 3 + 2)
        have hklt2 : (k : Int) < (j : Int) := by omega
        have hvs := (hL.2.2.1 k).2
        have HLs := hidn hL
        have HOK := hidn (own_other ls HC.out.symm k hkl)
        have HV40 : Hid ((labD ls k).2.size ≤ 40) := hidn (by
          have hc := ((canOK_iff ls).1 HC.out.symm).2.2 k (by rw [ownM_length] at hkl; omega)
          unfold canAt valueOK at hc
          simp at hc
          exact hc.1.2.1.2)
        have HPUT := hidn (fun V => own_put hown2 (k * 3 + 2) (.string V))
        have HMK := hidn hmk
        have BW2 := hidn (Bw.trans (b2.mono Bw.size))
        have HB2 := hidn b2
        clear hmk hown2 b2 hvs
        generalize (labD ls k).2 = vk at *
        generalize (labD ls k).1 = nk at *
        have hsum : ¬ 9223372036854775807 < 6 + vk.size := by have := HV40.out; omega
        have hVl : ∀ V : ByteArray, V = (⟨#[110, 101, 118, 101, 114, 32]⟩ : ByteArray) ++ vk → V.toList.length ≠ vk.toList.length ∧ V.size ≤ maxLen := by
          intro V hV
          have h1 : V.size = 6 + vk.size := by rw [hV, ByteArray.size_append]; rfl
          have h2 : ∀ b : ByteArray, b.toList.length = b.size := fun b => by rw [Lib.toList_data]; exact Array.length_toList
          refine ⟨by rw [h2, h2]; omega, ?_⟩
          have := HV40.out
          unfold maxLen
          omega
        have HVL := hidn hVl
        clear hVl
        go_wp2_with fail
        obtain ⟨V, hV⟩ : ∃ V, V = (⟨#[110, 101, 118, 101, 114, 32]⟩ : ByteArray) ++ vk := ⟨_, rfl⟩
        rw [← hV]
        have HVV := hidn (HVL.out V hV)
        clear hV
        obtain ⟨w3, hw3⟩ : ∃ w3, w3 = w2.setCell ⟨g2, k * 3 + 2, none⟩ (.string V) := ⟨_, rfl⟩
        have own3 := HPUT.out V
        rw [mvs_set (ownM ls) k _ V HMK.out] at own3
        rw [← hw3] at own3 ⊢
        have b3 : Below wr.heap.size wr w3 := by rw [hw3]; exact HB2.out.setCell hg2 _
        have B3 := Bw.trans (b3.mono Bw.size)
        obtain ⟨a4, c4, hac4, hmo⟩ := mss_of_own own3 (by rw [List.length_set, HNL.out]) (fun m hm => by
          rcases List.mem_or_eq_of_mem_set hm with h | h
          · exact HSZ.out m h
          · rw [h]; exact ⟨(HSZ.out _ (List.mem_of_getElem? HMK.out)).1, HVV.out.2⟩)
        cases hac4
        have HMO := hidn hmo
        have HM3 := hidn (HMS.out.below b3)
        have HL3 := hidn (HLs.out.below B3)
        have HF := hidn (HOK.out V HVV.out.1)
        have HO := hidn (fun (w' : World) (hl : Ls w' (some ⟨lb, lo, none⟩) llen ls) (m : Mat) (hm : m.k = 1) => one_is m (some ⟨lb, lo, none⟩) llen lcap ls w' hl hr hm)
        have HK1 : Hid (∀ m ∈ ownM ls, m.k = 1) := hidn (fun m hm => by
          unfold ownM at hm
          obtain ⟨x, _, rfl⟩ := List.mem_map.1 hm
          rfl)
        have HK2 : Hid (∀ m ∈ (ownM ls).set k ⟨1, nk, V⟩, m.k = 1) := hidn (fun m hm => by
          rcases List.mem_or_eq_of_mem_set hm with h | h
          · exact HK1.out m h
          · rw [h])
        have HB3 := hidn B3
        clear own3 b3 B3 hmo hw3
        refine (all_any _ j sc (ownM ls) _ llen lcap ls _ HM3.out HL3.out (fun m hm w' hl => HO.out w' hl m (HK1.out m hm))).mono ?_
        rintro e w4 ⟨rfl, b4⟩
        rw [own_all ls HC.out.symm]
        have HB4 := hidn (HB3.out.trans (b4.mono HB3.out.size))
        have HM4 := hidn (HM3.out.below b4)
        have HMO4 := hidn (HMO.out.below b4)
        clear b4
        go_wp2_with fail
        refine (canM_any _ j sc (ownM ls) _ HM4.out).mono ?_
        rintro e w5 ⟨rfl, b5⟩
        rw [own_can ls HC.out.symm]
        have HB5 := hidn (HB4.out.trans (b5.mono HB4.out.size))
        have HMO5 := hidn (HMO4.out.below b5)
        clear b5
        go_wp2_with fail
        refine (all_any _ j c2 _ _ llen lcap ls _ HMO5.out (HLs.out.below HB5.out) (fun m hm w' hl => HO.out w' hl m (HK2.out m hm))).mono ?_
        rintro e w6 ⟨rfl, b6⟩
        rw [HF.out]
        have HB6 := hidn (HB5.out.trans (b6.mono HB5.out.size))
        clear b6
        go_wp2_with fail
        refine (all_any none 0 0 [] _ llen lcap ls _ ⟨rfl, Nat.zero_le _, fun _ => rfl, (fun m hm => by cases hm), (fun x hx => by cases hx)⟩ (HLs.out.below HB6.out) (fun m hm => by cases hm)).mono ?_
        rintro e w7 ⟨rfl, b7⟩
        have HB7 := hidn (HB6.out.trans (b7.mono HB6.out.size))
        clear b7
        have hnil : allM [] ls = true := rfl
        rw [hnil]
        go_wp2_with fail
        exact bodyPost_ret (v := .bool true) (by simp [results, Tryd.results4, go_sem]) rfl ⟨rfl, HB7.out⟩
end Go.Proofs.YtobjpofdchjciaaDoor
