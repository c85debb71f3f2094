/- The log, plainly: halves at the files' ends; what is read of records. -/
import Derived.Test.YthhnpajaacfapaaDoorMm
import Derived.Test.YthhnpajaacfapaaDoorMn
namespace Go.Proofs.YthhnpajaacfapaaDoor
open Go.RowKit Go.Maps
set_option linter.unusedVariables false

def Calm (l : List Ext) : Prop := ∀ x ∈ l, x.waits = false

theorem map_calm {l : List Ext} (h : Calm l) : l.map Ext.synced = l := by
  have : ∀ x ∈ l, x.synced = id x := fun x hx => synced_calm (h x hx)
  rw [List.map_congr_left this, List.map_id]

theorem synced_waits (x : Ext) : x.synced.waits = false := by
  unfold Ext.synced
  split
  · rfl
  · next h => simpa using h

def fullW (s : ByteArray) (at' g : Nat) (ps : List (List Nat)) : List Ext := (fileW s at' g ps).map Ext.synced

theorem fullW_length (s : ByteArray) (at' g : Nat) (ps : List (List Nat)) : (fullW s at' g ps).length = ps.length := by unfold fullW; rw [List.length_map, fileW_length]

theorem fullW_calm (s : ByteArray) (at' g : Nat) (ps : List (List Nat)) : Calm (fullW s at' g ps) := by
  intro x hx
  obtain ⟨y, _, rfl⟩ := List.mem_map.1 hx
  exact synced_waits y

theorem Calm.append {a b : List Ext} (h : Calm a) (k : Calm b) : Calm (a ++ b) := by
  intro x hx
  rcases List.mem_append.1 hx with hx | hx
  · exact h x hx
  · exact k x hx

theorem fullW_at (s : ByteArray) (at' g : Nat) (ps : List (List Nat)) (k : Nat) (p : List Nat) (h : ps[k]? = some p) : (fullW s at' g ps)[k]? = some ⟨frameB (nums s) (at' + k) g p, frameB (nums s) (at' + k) g p, frameB (nums s) (at' + k) g p, false⟩ := by
  unfold fullW
  rw [List.getElem?_map, fileW_at s at' g ps k p h]
  simp [Ext.synced, Ext.wrote]

theorem half_end (st : St) (s : ByteArray) (at' g : Nat) (hat : at' = (st.M s.data.toList).length) (ps : List (List Nat)) (hne : 0 < ps.length) (hf : (ps.length : Int) ≤ st.free) (hb : -1 ≤ st.fuse) (hc : Calm (st.M s.data.toList)) :
    ((st.fuse = -1 ∨ (ps.length : Int) + 1 ≤ st.fuse) ∧ halfD st s at' g ps = (⟨upd st.M s.data.toList (st.M s.data.toList ++ fullW s at' g ps), st.free - ps.length, burnK st.fuse (ps.length + 1)⟩, 0)) ∨ ((0 ≤ st.fuse ∧ st.fuse ≤ ps.length) ∧ (halfD st s at' g ps).2 = 31) := by
  by_cases h1 : st.fuse = -1 ∨ (ps.length : Int) ≤ st.fuse
  · have hw := wrAll_end st s at' g hat ps hf h1
    have hne2 : upd st.M s.data.toList (st.M s.data.toList ++ fileW s at' g ps) s.data.toList ≠ [] := by
      rw [upd_same]
      intro e
      have := congrArg List.length e
      rw [List.length_append, fileW_length, List.length_nil] at this
      omega
    by_cases h2 : st.fuse = (ps.length : Int)
    · refine .inr ⟨⟨by omega, by omega⟩, ?_⟩
      unfold halfD
      rw [hw]
      simp only [if_true]
      unfold syD
      rw [if_neg hne2, if_pos (by show burnK st.fuse ps.length = 0; unfold burnK; rw [if_neg (by omega)]; omega)]
    · refine .inl ⟨by omega, ?_⟩
      unfold halfD
      rw [hw]
      simp only [if_true]
      unfold syD
      rw [if_neg hne2, if_neg (by show burnK st.fuse ps.length ≠ 0; exact burnK_ne (by omega))]
      simp only [upd_same, upd_upd']
      rw [burnK_succ (by omega), List.map_append, map_calm hc]
      rfl
  · have hw := wrAll_dead st s at' g hat ps hf (by omega) (by omega)
    refine .inr ⟨⟨by omega, by omega⟩, ?_⟩
    unfold halfD
    rw [hw]
    simp

/-- Both files of a segment, longer by a record. -/
def appM (M : List UInt8 → List Ext) (s : ByteArray) (at' g : Nat) (ps : List (List Nat)) : List UInt8 → List Ext :=
  upd (upd M (fileA s).data.toList (M (fileA s).data.toList ++ fullW (fileA s) at' g ps)) (fileB s).data.toList (M (fileB s).data.toList ++ fullW (fileB s) at' g ps)

theorem appM_A (M : List UInt8 → List Ext) (s : ByteArray) (at' g : Nat) (ps : List (List Nat)) : appM M s at' g ps (fileA s).data.toList = M (fileA s).data.toList ++ fullW (fileA s) at' g ps := by
  unfold appM
  rw [upd_other _ _ _ _ (Ne.symm (file_ne s)), upd_same]

theorem appM_B (M : List UInt8 → List Ext) (s : ByteArray) (at' g : Nat) (ps : List (List Nat)) : appM M s at' g ps (fileB s).data.toList = M (fileB s).data.toList ++ fullW (fileB s) at' g ps := by
  unfold appM
  rw [upd_same]

theorem appM_o (M : List UInt8 → List Ext) (s : ByteArray) (at' g : Nat) (ps : List (List Nat)) (t : List UInt8) (h1 : t ≠ (fileA s).data.toList) (h2 : t ≠ (fileB s).data.toList) : appM M s at' g ps t = M t := by
  unfold appM
  rw [upd_other _ _ _ _ h2, upd_other _ _ _ _ h1]

theorem app_end (st : St) (s : ByteArray) (at' g : Nat) (hA : at' = (st.M (fileA s).data.toList).length) (hB : at' = (st.M (fileB s).data.toList).length) (ps : List (List Nat)) (hne : 0 < ps.length) (hf : (ps.length : Int) + ps.length ≤ st.free) (hb : -1 ≤ st.fuse) (cA : Calm (st.M (fileA s).data.toList)) (cB : Calm (st.M (fileB s).data.toList)) :
    ((st.fuse = -1 ∨ (ps.length : Int) + ps.length + 2 ≤ st.fuse) ∧ appD st s at' g ps = (⟨appM st.M s at' g ps, st.free - ps.length - ps.length, burnK st.fuse (ps.length + 1 + (ps.length + 1))⟩, 0)) ∨ (0 ≤ st.fuse ∧ (appD st s at' g ps).2 = 31) := by
  rcases half_end st (fileA s) at' g hA ps hne (by omega) hb cA with ⟨h1, e1⟩ | ⟨h1, e1⟩
  · have hfz : -1 ≤ burnK st.fuse (ps.length + 1) := by unfold burnK; split <;> omega
    have hBB : upd st.M (fileA s).data.toList (st.M (fileA s).data.toList ++ fullW (fileA s) at' g ps) (fileB s).data.toList = st.M (fileB s).data.toList := upd_other _ _ _ _ (file_ne s)
    have ha : appD st s at' g ps = halfD ⟨upd st.M (fileA s).data.toList (st.M (fileA s).data.toList ++ fullW (fileA s) at' g ps), st.free - ps.length, burnK st.fuse (ps.length + 1)⟩ (fileB s) at' g ps := by
      unfold appD
      rw [e1]
      simp
    rcases half_end ⟨upd st.M (fileA s).data.toList (st.M (fileA s).data.toList ++ fullW (fileA s) at' g ps), st.free - ps.length, burnK st.fuse (ps.length + 1)⟩ (fileB s) at' g (by show at' = (upd _ _ _ _).length; rw [hBB]; exact hB) ps hne (by show (ps.length : Int) ≤ st.free - ps.length; omega) hfz (by show Calm (upd _ _ _ _); rw [hBB]; exact cB) with ⟨h2, e2⟩ | ⟨h2, e2⟩
    · simp only at h2 e2
      refine .inl ⟨?_, ?_⟩
      · unfold burnK at h2
        split at h2 <;> omega
      · rw [ha, e2, hBB]
        have : burnK (burnK st.fuse (ps.length + 1)) (ps.length + 1) = burnK st.fuse (ps.length + 1 + (ps.length + 1)) := by
          unfold burnK
          by_cases h3 : st.fuse = -1
          · simp [h3]
          · rw [if_neg h3, if_neg h3, if_neg (by omega)]
            omega
        rw [this]
        rfl
    · simp only at h2
      refine .inr ⟨?_, by rw [ha]; exact e2⟩
      unfold burnK at h2
      split at h2 <;> omega
  · refine .inr ⟨h1.1, ?_⟩
    unfold appD
    rw [if_neg (by rw [e1]; decide), e1]

/-- What lies ahead of a place stays, where nothing there waits. -/
def Pref (M M' : List UInt8 → List Ext) (n : Nat) : Prop := ∀ t i, i < n → (M' t)[i]? = (M t)[i]?

theorem wr_pref (st : St) (nm : List UInt8) (i n : Nat) (z : List Nat) (h : n ≤ i) : Pref st.M (wrD st nm i z).1.M n := by
  intro t j hj
  unfold wrD
  split
  · rfl
  · split
    · rfl
    · split
      · show (upd st.M nm _ t)[j]? = _
        unfold upd
        split
        · next e => rw [List.getElem?_set_ne (by omega), e]
        · rfl
      · next hx =>
        split
        · rfl
        · show (upd st.M nm _ t)[j]? = _
          unfold upd
          split
          · next e =>
            have hl := List.getElem?_eq_none_iff.1 hx
            subst e
            by_cases hjl : j < (st.M t).length
            · rw [List.getElem?_append_left hjl]
            · next hlt _ _ _ => omega
          · rfl

theorem Pref.trans {A B C : List UInt8 → List Ext} {n : Nat} (h : Pref A B n) (k : Pref B C n) : Pref A C n := fun t i hi => (k t i hi).trans (h t i hi)

theorem fold_pref (s : ByteArray) (g n : Nat) : ∀ (l : List (List Nat × Nat)) (acc : St × Int), (∀ q ∈ l, n ≤ q.2) → Pref acc.1.M (l.foldl (wrStep s g) acc).1.M n
  | [], acc, _ => fun _ _ _ => rfl
  | q :: l, acc, h => by
    rw [List.foldl_cons]
    refine Pref.trans ?_ (fold_pref s g n l _ (fun x hx => h x (by simp [hx])))
    unfold wrStep
    split
    · exact wr_pref _ _ _ _ _ (h q (by simp))
    · exact fun _ _ _ => rfl

theorem all_pref (st : St) (s : ByteArray) (at' g : Nat) (ps : List (List Nat)) : Pref st.M (wrAll st s at' g ps).1.M at' := by
  refine fold_pref s g at' _ (st, 0) (fun q hq => ?_)
  obtain ⟨p, i⟩ := q
  exact (List.mem_zipIdx hq).1

def CalmTo (M : List UInt8 → List Ext) (n : Nat) : Prop := ∀ t i x, i < n → (M t)[i]? = some x → x.waits = false

theorem CalmTo.pref {M M' : List UInt8 → List Ext} {n : Nat} (h : CalmTo M n) (k : Pref M M' n) : CalmTo M' n := fun t i x hi hx => h t i x hi (by rw [← k t i hi]; exact hx)

theorem sy_pref (st : St) (nm : List UInt8) (n : Nat) (h : CalmTo st.M n) : Pref st.M (syD st nm).1.M n := by
  intro t i hi
  unfold syD
  split
  · rfl
  · split
    · rfl
    · show (upd st.M nm _ t)[i]? = _
      unfold upd
      split
      · next e =>
        subst e
        rw [List.getElem?_map]
        cases hx : (st.M t)[i]? with
        | none => rfl
        | some x => rw [Option.map_some, synced_calm (h t i x hi hx)]
      · rfl

theorem half_pref (st : St) (s : ByteArray) (at' g : Nat) (ps : List (List Nat)) (h : CalmTo st.M at') : Pref st.M (halfD st s at' g ps).1.M at' := by
  have h1 := all_pref st s at' g ps
  unfold halfD
  split
  · exact h1.trans (sy_pref _ _ _ (h.pref h1))
  · exact h1

theorem app_pref (st : St) (s : ByteArray) (at' g : Nat) (ps : List (List Nat)) (h : CalmTo st.M at') : Pref st.M (appD st s at' g ps).1.M at' := by
  have h1 := half_pref st (fileA s) at' g ps h
  unfold appD
  split
  · exact h1.trans (half_pref _ _ _ _ _ (h.pref h1))
  · exact h1
end Go.Proofs.YthhnpajaacfapaaDoor

namespace Go.Proofs.YthhnpajaacfapaaDoor
open Go.RowKit Go.Maps
set_option linter.unusedVariables false

theorem partsB_at (zs : List Nat) (k : Nat) (h : k < (zs.length + 105) / 106) : (partsB zs)[k]? = some ((zs.drop (106 * k)).take 106) := by
  unfold partsB
  rw [List.getElem?_map, List.getElem?_range h]
  rfl

theorem partsB_mem (zs : List Nat) (k : Nat) (p : List Nat) (h : (partsB zs)[k]? = some p) : p = (zs.drop (106 * k)).take 106 ∧ k < (zs.length + 105) / 106 ∧ p.length ≤ 106 := by
  have hk : k < (zs.length + 105) / 106 := by
    have := (List.getElem?_eq_some_iff.1 h).1
    rw [partsB_length] at this
    exact this
  rw [partsB_at zs k hk] at h
  cases h
  exact ⟨rfl, hk, by rw [List.length_take]; omega⟩

/-- A record stands there. -/
def Stored (G : Nat → Option (List Nat × Nat)) (at' : Nat) (z : List Nat) : Prop := ∃ g, ∀ k p, (partsB (recB z))[k]? = some p → G (at' + k) = some (p, g)

theorem take_take4 (T : List Nat) : (T.take 106).take 4 = T.take 4 := by rw [List.take_take]; rfl

theorem recGo_stored (G : Nat → Option (List Nat × Nat)) (g : Nat) (T : List Nat) (E : Nat) (hE : E = (T.length + 105) / 106) (hG : ∀ k, k < E → G k = some ((T.drop (106 * k)).take 106, g)) : ∀ j i, i + j = E → recGo G g j i (T.take (106 * i)) = some T
  | 0, i, h => by
    unfold recGo
    rw [List.take_of_length_le (by omega)]
  | j + 1, i, h => by
    unfold recGo
    rw [hG i (by omega)]
    simp only
    rw [if_pos ⟨trivial, by rw [List.length_take]; omega⟩, ← List.take_add, show 106 * i + 106 = 106 * (i + 1) from by omega]
    exact recGo_stored G g T E hE hG j (i + 1) (by omega)

theorem recP_stored (M : List UInt8 → List Ext) (s : ByteArray) (at' en : Nat) (z : List Nat) (h1 : 1 ≤ z.length) (h2 : z.length ≤ 1000000) (hS : Stored (fun i => getP M s (i : Int)) at' z) (hen : at' + needB (z.length : Int) ≤ en) : recP M s at' en = some z := by
  obtain ⟨g, hg⟩ := hS
  have hL := recB_length z
  obtain ⟨E, hE⟩ : ∃ E, E = ((recB z).length + 105) / 106 := ⟨_, rfl⟩
  have hE2 : E = (z.length + 3) / 106 + 1 := by rw [hE, hL]; omega
  have hN : needB (z.length : Int) = E := by rw [needB_yes _ h1 h2, hE2]
  have hG : ∀ k, k < E → getP M s ((at' + k : Nat) : Int) = some (((recB z).drop (106 * k)).take 106, g) := fun k hk => hg k _ (partsB_at _ k (by omega))
  have h0 := hG 0 (by omega)
  rw [Nat.add_zero, Nat.mul_zero, List.drop_zero] at h0
  have h4 : (recB z).take 4 = putB z.length 4 := by
    unfold recB
    rw [List.take_append_of_le_length (by rw [putB_length]; omega), List.take_of_length_le (by rw [putB_length]; omega)]
  have hget : getB 0 (((recB z).take 106).take 4) = z.length := by
    rw [take_take4, h4, getB_putB]
    have e4 : (256 : Nat) ^ 4 = 4294967296 := by decide
    rw [e4]
    exact Nat.mod_eq_of_lt (by omega)
  have hgo := recGo_stored (fun i => getP M s ((at' + i : Nat) : Int)) g (recB z) E hE hG (E - 1) 1 (by omega)
  rw [Nat.mul_one] at hgo
  unfold recP
  rw [h0]
  simp only
  rw [if_neg (by rw [List.length_take, hL]; omega), hget, hN, if_neg (by omega), hgo]
  simp only [Option.bind_some]
  rw [if_pos (by rw [hL]; omega)]
  congr 1

/-- Records one behind the other. -/
def Stores (G : Nat → Option (List Nat × Nat)) : Nat → List (List Nat) → Prop
  | _, [] => True
  | at', z :: rs => (1 ≤ z.length ∧ z.length ≤ 1000000) ∧ Stored G at' z ∧ Stores G (at' + needB (z.length : Int)) rs

def sumN (rs : List (List Nat)) : Nat := (rs.map fun z => needB (z.length : Int)).sum

theorem readGo_stores (M : List UInt8 → List Ext) (s : ByteArray) (en : Nat) : ∀ (rs : List (List Nat)) (at' f : Nat) (acc : List (List Nat)), Stores (fun i => getP M s (i : Int)) at' rs → en = at' + sumN rs → en ≤ f + at' → readGo M s en (f + 1) at' acc = some (acc ++ rs)
  | [], at', f, acc, _, he, _ => by
    show (if at' < en then _ else _) = _
    rw [if_neg (by rw [he]; simp [sumN]), List.append_nil]
  | z :: rs, at', f, acc, h, he, hf => by
    obtain ⟨⟨h1, h2⟩, hS, hR⟩ := h
    have hs : sumN (z :: rs) = needB (z.length : Int) + sumN rs := by simp [sumN]
    have hn : 1 ≤ needB (z.length : Int) := by rw [needB_yes _ h1 h2]; omega
    show (if at' < en then _ else _) = _
    rw [if_pos (by omega), recP_stored M s at' en z h1 h2 hS (by omega)]
    simp only
    obtain ⟨f', rfl⟩ : ∃ f', f = f' + 1 := ⟨f - 1, by omega⟩
    rw [readGo_stores M s en rs _ f' _ hR (by omega) (by omega), List.append_assoc]
    rfl

theorem readP_stores (M : List UInt8 → List Ext) (s : ByteArray) (rs : List (List Nat)) (h : Stores (fun i => getP M s (i : Int)) 0 rs) : readP M s (sumN rs) = some rs := by
  unfold readP
  rw [readGo_stores M s (sumN rs) rs 0 (sumN rs) [] h (by omega) (by omega), List.nil_append]

theorem Stored.congr {G G' : Nat → Option (List Nat × Nat)} {at' : Nat} {z : List Nat} (h : Stored G at' z) (n : Nat) (hk : ∀ i, i < n → G' i = G i) (hn : at' + (partsB (recB z)).length ≤ n) : Stored G' at' z := by
  obtain ⟨g, hg⟩ := h
  refine ⟨g, fun k p hp => ?_⟩
  rw [hk _ (by have := (List.getElem?_eq_some_iff.1 hp).1; omega)]
  exact hg k p hp

theorem need_parts {z : List Nat} (h1 : 1 ≤ z.length) (h2 : z.length ≤ 1000000) : (partsB (recB z)).length = needB (z.length : Int) := by rw [recB_parts, needB_yes _ h1 h2]

theorem Stores.congr {G G' : Nat → Option (List Nat × Nat)} : ∀ {rs : List (List Nat)} {at' : Nat} (n : Nat), Stores G at' rs → (∀ i, i < n → G' i = G i) → at' + sumN rs ≤ n → Stores G' at' rs
  | [], _, _, _, _, _ => trivial
  | z :: rs, at', n, h, hk, hn => by
    obtain ⟨⟨h1, h2⟩, hS, hR⟩ := h
    have hs : sumN (z :: rs) = needB (z.length : Int) + sumN rs := by simp [sumN]
    exact ⟨⟨h1, h2⟩, hS.congr n hk (by rw [need_parts h1 h2]; omega), hR.congr n hk (by omega)⟩

theorem Stores.snoc {G : Nat → Option (List Nat × Nat)} : ∀ {rs : List (List Nat)} {at' : Nat} {z : List Nat}, Stores G at' rs → 1 ≤ z.length → z.length ≤ 1000000 → Stored G (at' + sumN rs) z → Stores G at' (rs ++ [z])
  | [], at', z, _, h1, h2, hS => ⟨⟨h1, h2⟩, by simpa [sumN] using hS, trivial⟩
  | y :: rs, at', z, h, h1, h2, hS => by
    obtain ⟨hy, hY, hR⟩ := h
    have hs : sumN (y :: rs) = needB (y.length : Int) + sumN rs := by simp [sumN]
    exact ⟨hy, hY, hR.snoc h1 h2 (by rw [Nat.add_assoc, ← hs]; exact hS)⟩

theorem sumN_snoc (rs : List (List Nat)) (z : List Nat) : sumN (rs ++ [z]) = sumN rs + needB (z.length : Int) := by simp [sumN]

theorem rdO_eq {l l' : List Ext} {nm : List Nat} {i : Nat} (h : l'[i]? = l[i]?) : rdO l' nm (i : Int) = rdO l nm (i : Int) := by
  unfold rdO
  rw [Int.toNat_natCast, h]

theorem getP_eq {M M' : List UInt8 → List Ext} {s : ByteArray} {i : Nat} (hA : (M' (fileA s).data.toList)[i]? = (M (fileA s).data.toList)[i]?) (hB : (M' (fileB s).data.toList)[i]? = (M (fileB s).data.toList)[i]?) : getP M' s (i : Int) = getP M s (i : Int) := by
  unfold getP
  rw [rdO_eq hA, rdO_eq hB]

theorem rdO_frame (l : List Ext) (s : ByteArray) (i g : Nat) (p : List Nat) (x : Ext) (hx : l[i]? = some x) (hr : x.rd = frameB (nums s) i g p) (hi : i ≤ 2147483647) (hg : g ≤ 4611686018427387904) (hp : p.length ≤ 106) : rdO l (nums s) (i : Int) = some (p, g) := by
  unfold rdO
  rw [if_neg (by omega), Int.toNat_natCast, hx]
  show openB x.rd (nums s) (i : Int) = _
  rw [hr]
  exact openB_frame (nums s) i g p hi hg hp

theorem appM_stored (M : List UInt8 → List Ext) (s : ByteArray) (at' g : Nat) (z : List Nat) (hA : at' = (M (fileA s).data.toList).length) (hB : at' = (M (fileB s).data.toList).length) (hg : g ≤ 4611686018427387904) (hat : at' + (partsB (recB z)).length ≤ 2147483647) : Stored (fun i => getP (appM M s at' g (partsB (recB z))) s (i : Int)) at' z := by
  refine ⟨g, fun k p hp => ?_⟩
  obtain ⟨rfl, hk, hpl⟩ := partsB_mem _ _ _ hp
  have hkl := (List.getElem?_eq_some_iff.1 hp).1
  have e1 : rdO (appM M s at' g (partsB (recB z)) (fileA s).data.toList) (nums (fileA s)) ((at' + k : Nat) : Int) = some (((recB z).drop (106 * k)).take 106, g) := by
    rw [appM_A]
    refine rdO_frame _ (fileA s) (at' + k) g _ ⟨frameB (nums (fileA s)) (at' + k) g (((recB z).drop (106 * k)).take 106), frameB (nums (fileA s)) (at' + k) g (((recB z).drop (106 * k)).take 106), frameB (nums (fileA s)) (at' + k) g (((recB z).drop (106 * k)).take 106), false⟩ ?_ ?_ (by omega) hg hpl
    · rw [List.getElem?_append_right (by omega), ← hA, Nat.add_sub_cancel_left]
      exact fullW_at _ _ _ _ _ _ hp
    · rfl
  have e2 : rdO (appM M s at' g (partsB (recB z)) (fileB s).data.toList) (nums (fileB s)) ((at' + k : Nat) : Int) = some (((recB z).drop (106 * k)).take 106, g) := by
    rw [appM_B]
    refine rdO_frame _ (fileB s) (at' + k) g _ ⟨frameB (nums (fileB s)) (at' + k) g (((recB z).drop (106 * k)).take 106), frameB (nums (fileB s)) (at' + k) g (((recB z).drop (106 * k)).take 106), frameB (nums (fileB s)) (at' + k) g (((recB z).drop (106 * k)).take 106), false⟩ ?_ ?_ (by omega) hg hpl
    · rw [List.getElem?_append_right (by omega), ← hB, Nat.add_sub_cancel_left]
      exact fullW_at _ _ _ _ _ _ hp
    · rfl
  show getP _ s _ = _
  unfold getP
  rw [e1, e2]
  unfold getO
  simp
end Go.Proofs.YthhnpajaacfapaaDoor

namespace Go.Proofs.YthhnpajaacfapaaDoor
open Go.RowKit Go.Maps
set_option linter.unusedVariables false

theorem segN_names : ∀ k < 10, nameB (fileA (segN k)).data.toList = true ∧ nameB (fileB (segN k)).data.toList = true ∧ (segN k).size ≤ 20 ∧ [] ≠ (fileA (segN k)).data.toList ∧ [] ≠ (fileB (segN k)).data.toList := by decide +kernel

theorem appM_nil (M : List UInt8 → List Ext) (k : Nat) (hk : k < 10) (at' g : Nat) (ps : List (List Nat)) (h : M [] = []) : appM M (segN k) at' g ps [] = [] := by
  obtain ⟨_, _, _, h1, h2⟩ := segN_names k hk
  rw [appM_o _ _ _ _ _ _ h1 h2]
  exact h

theorem wname_below (w : World) (k : Nat) (hk : k < 10) : ∀ wx, Below w.heap.size w wx → Calls Tryd.prog 19 #[.int .i64 (k : Int)] wx fun e w' => e = .returned (.string (segN k)) ∧ Below wx.heap.size wx w' := fun wx _ =>
  (wname_small wx k (by omega)).mono (by rintro e w' ⟨he, rfl⟩; exact ⟨he, Below.refl _ _⟩)

/-- What is known of a log whose files are as long as each other, and calm. -/
structure LogOK (M : List UInt8 → List Ext) (s : ByteArray) (n : Nat) : Prop where
  lA : n = (M (fileA s).data.toList).length
  lB : n = (M (fileB s).data.toList).length
  cA : Calm (M (fileA s).data.toList)
  cB : Calm (M (fileB s).data.toList)
  le : ∀ t, (M t).length ≤ n
  nil : M [] = []

theorem LogOK.app {M : List UInt8 → List Ext} {k n : Nat} (hk : k < 10) (h : LogOK M (segN k) n) (g : Nat) (ps : List (List Nat)) : LogOK (appM M (segN k) n g ps) (segN k) (n + ps.length) := by
  refine ⟨?_, ?_, ?_, ?_, fun t => ?_, appM_nil M k hk _ _ _ h.nil⟩
  · rw [appM_A, List.length_append, fullW_length, ← h.lA]
  · rw [appM_B, List.length_append, fullW_length, ← h.lB]
  · rw [appM_A]; exact h.cA.append (fullW_calm _ _ _ _)
  · rw [appM_B]; exact h.cB.append (fullW_calm _ _ _ _)
  · by_cases h1 : t = (fileA (segN k)).data.toList
    · rw [h1, appM_A, List.length_append, fullW_length, ← h.lA]; exact Nat.le_refl _
    · by_cases h2 : t = (fileB (segN k)).data.toList
      · rw [h2, appM_B, List.length_append, fullW_length, ← h.lB]; exact Nat.le_refl _
      · rw [appM_o _ _ _ _ _ _ h1 h2]
        have := h.le t
        omega

theorem logOK_new (k : Nat) : LogOK (fun _ => []) (segN k) 0 := ⟨rfl, rfl, fun x hx => by simp at hx, fun x hx => by simp at hx, fun _ => Nat.le_refl _, rfl⟩

/-- Append behind what is there, on a disk without a fuse. -/
theorem append_end (w : World) (d : Nat) (F : Nat → Prop) (N : Nat) (M : List UInt8 → List Ext) (free : Int) (h : DiskOf w d F N M free (-1)) (hS : Sound5 w F) (k : Nat) (hk : k < 10) (at' : Nat) (hL : LogOK M (segN k) at') (g : Nat) (hg : g ≤ 4611686018427387904)
    (a : Option Addr) (n cap : Nat) (zs : List Nat) (hB : BsF F w a n zs) (h1 : 1 ≤ n) (hn : n ≤ 2000) (hat : at' ≤ 500000) (hN : N ≤ 500000) (E : Nat) (HE : Hid (E = (n + 3) / 106 + 1)) (hf : (E : Int) + E ≤ free) (hf2 : free ≤ 1000000) :
    Calls Tryd.prog 6 #[.pointer (some ⟨d, 0, none⟩), .int .i64 (k : Int), .int .i64 (at' : Int), .int .i64 (g : Int), .slice a n cap] w fun e w' => e = .returned (.tuple #[.int .i64 (E : Int), .int .i64 0]) ∧ ∃ F', DiskOf w' d F' (N + E + E) (appM M (segN k) at' g (partsB (recB zs))) (free - E - E) (-1) ∧ Gr F F' w w' := by
  obtain ⟨hnA, hnB, hsz, _, _⟩ := segN_names k hk
  have hPL : (partsB (recB zs)).length = E := by rw [recB_parts, HE.out, hB.1.1]
  have hE0 : 1 ≤ E := by rw [HE.out]; omega
  refine (append_any w d F N ⟨M, free, -1⟩ h hS at' ⟨by show (-1 : Int) ≤ -1; omega, by show (-1 : Int) ≤ _; omega, by show 0 ≤ free; omega, hf2, hL.le⟩ hL.nil (segN k) (by omega) hnA hnB (k : Int) (by omega) (by omega) (wname_below w k hk) at' g hg a n cap zs hB h1 (by omega) (by omega) (by omega) (by unfold maxLen; omega) E HE).mono ?_
  rintro e w' ⟨rfl, F', hD, hG⟩
  rcases app_end ⟨M, free, -1⟩ (segN k) at' g hL.lA hL.lB (partsB (recB zs)) (by rw [hPL]; omega) (by rw [hPL]; exact hf) (by show (-1 : Int) ≤ -1; omega) hL.cA hL.cB with ⟨_, e1⟩ | ⟨h0, _⟩
  · rw [e1] at hD ⊢
    simp only [hPL] at hD ⊢
    refine ⟨rfl, F', hD, hG⟩
  · exact absurd h0 (by show ¬ (0 : Int) ≤ -1; omega)

/-- The first text of a list. -/
theorem Txs.first {w : World} {base : Nat} {v : Value} {z : List Nat} {rs : List (List Nat)} (h : Txs w base v (z :: rs)) : ∃ g c a c', v = .slice (some ⟨g, 0, none⟩) (rs.length + 1) c ∧ w.cell? ⟨g, 0, none⟩ = some (.slice a z.length c') ∧ Bs w a z.length z := by
  obtain ⟨vs, h1, h2⟩ := h
  obtain ⟨a, c', e, hB, _⟩ := h2 0 z rfl
  rcases h1.2 with ⟨_, h0⟩ | ⟨g, cap, cur, hv, _, hg, _, _, _, hc⟩
  · simp at h0
  · refine ⟨g, cap, a, c', hv, ?_, hB⟩
    rw [cell_of_row _ _ _ _ _ _ hg]
    rw [← hc, List.getElem?_take, if_pos (by simp)] at e
    simpa using e

set_option maxHeartbeats 4000000 in
theorem awake18_any (w : World) (hT : CrcTab w) :
    Calls Tryd.prog 10 #[] w fun e w' => e = .returned (.bool true) ∧ Below w.heap.size w w' := by
  have kc := fun (w : World) (C : Array Value) (n c : Nat) => Lib.run_convert_bytes_const (P := Tryd.prog) w 29 5 C n c Tryd.underlying29 Tryd.underlying5
  have HT := hidn hT
  clear hT
  go_enter Tryd.func10, Tryd.ntmps10
  go_wp2_with fail
  refine (new_any _ 10 (by omega)).mono ?_
  rintro e w1 ⟨rfl, hD1, hb1, hs1⟩
  have HD1 := hidn hD1
  have HS1 := hidn hs1
  clear hD1 hs1
  go_wp2_with fail
  have hb1' : Below w1.heap.size w1 (w1.alloc (.cells #[.int .u8 97, .int .u8 98] 5 (2, 3))) := (Below.refl _ _).alloc (Nat.le_refl _) _
  have hB1 : Bs (w1.alloc (.cells #[.int .u8 97, .int .u8 98] 5 (2, 3))) (some ⟨w1.heap.size, 0, none⟩) 2 [97, 98] := bs_new w1 [97, 98] (2, 3) (by decide) (by decide)
  have hBF : BsF (fun k => w.heap.size ≤ k ∧ k < w.heap.size + 2) (w1.alloc (.cells #[.int .u8 97, .int .u8 98] 5 (2, 3))) (some ⟨w1.heap.size, 0, none⟩) 2 [97, 98] := ⟨hB1, fun x hx _ hF => by cases hx; have := HS1.out; have h2 : w1.heap.size < w.heap.size + 2 := hF.2; omega⟩
  have hb11 : Below w.heap.size w (w1.alloc (.cells #[.int .u8 97, .int .u8 98] 5 (2, 3))) := hb1.trans (hb1'.mono hb1.size)
  have hS1 : Sound5 (w1.alloc (.cells #[.int .u8 97, .int .u8 98] 5 (2, 3))) (fun k => w.heap.size ≤ k ∧ k < w.heap.size + 2) := ⟨HT.out.below hb11, fun hF => by have := HT.out.lt; omega, fun k hk => by have := hb1'.size; have := HS1.out; omega⟩
  refine (append_end _ _ _ 0 _ 10 (HD1.out.below hb1') hS1 1 (by omega) 0 (logOK_new 1) 1 (by omega) _ 2 2 [97, 98] hBF (by omega) (by omega) (by omega) (by omega) 1 (hidn (by decide)) (by omega) (by omega)).mono ?_
  rintro e w2 ⟨rfl, F2, hD2, hG2⟩
  have HD2 := hidn hD2
  have HB2 : Hid (Below w.heap.size w w2) := hidn (hb11.trans (hG2.1.below hb11.size (fun k hk => hk.1)))
  have HS2 := hidn (hS1.gr hG2)
  have hRd : readP (appM (fun _ => []) (segN 1) 0 1 (partsB (recB [97, 98]))) (segN 1) 1 = some [[97, 98]] := by
    have := readP_stores (appM (fun _ => []) (segN 1) 0 1 (partsB (recB [97, 98]))) (segN 1) [[97, 98]] ⟨⟨by decide, by decide⟩, appM_stored _ _ _ _ _ rfl rfl (by omega) (by rw [recB_parts]; decide), trivial⟩
    exact this
  have hnil := appM_nil (fun _ => []) 1 (by omega) 0 1 (partsB (recB [97, 98])) rfl
  have HR := hidn (read_wal w2 _ F2 _ _ _ _ HD2.out HS2.out.tab hnil (segN 1) (by decide +kernel) 1 (by omega) ((1 : Nat) : Int) (by omega) (by omega) (wname_below w2 1 (by omega)))
  rw [hRd] at HR
  clear hD2 hG2 hb1 hb1' hB1 hBF hb11 hS1 kc hRd hnil
  go_wp2_with fail
  refine HR.out.mono ?_
  clear HR
  rintro e w3 ⟨hb3, v3, rfl, hTx⟩
  obtain ⟨g3, c3, a3, c3', rfl, hc3, hB3⟩ := hTx.first
  have hst := hB3.str (cap := c3')
  have HB3 := hidn (HB2.out.trans (hb3.mono HB2.out.size))
  have hq : (strB [97, 98]).toList = [97, 98] := by decide +kernel
  generalize strB [97, 98] = sb at *
  simp only [List.length_nil, List.length_cons, Nat.zero_add] at hst hc3 ⊢
  clear hb3 hB3 hTx
  go_wp2
  go_ret
  exact ⟨rfl, HB3.out⟩
end Go.Proofs.YthhnpajaacfapaaDoor
