/- AnchorSaves, plainly: an anchor that was saved, one file turned; a second saving that stops. -/
import Derived.Test.YtoopdmfijbbfdaaDoorAnG
import Derived.Test.YtoopdmfijbbfdaaDoorPairTold2
namespace Go.Proofs.YtoopdmfijbbfdaaDoor
open Go.RowKit Go.Maps
set_option linter.unusedVariables false

/-- An extent that was written and synced. -/
def savE (s : ByteArray) (g : Nat) (p : List Nat) : Ext := (zeroE.wrote (frameB (nums s) 0 g p)).synced

/-- The files of a disk with an anchor. -/
def savM (g : Nat) (p : List Nat) : List UInt8 → List Ext := upd (upd (fun _ => []) (fileA ancN).data.toList [savE (fileA ancN) g p]) (fileB ancN).data.toList [savE (fileB ancN) g p]

theorem savE_full (s : ByteArray) (g : Nat) (p : List Nat) : savE s g p = ⟨frameB (nums s) 0 g p, frameB (nums s) 0 g p, frameB (nums s) 0 g p, false⟩ := rfl

theorem savM_A (g : Nat) (p : List Nat) : savM g p (fileA ancN).data.toList = [savE (fileA ancN) g p] := by
  unfold savM
  rw [upd_other _ _ _ _ (Ne.symm (file_ne ancN)), upd_same]

theorem savM_B (g : Nat) (p : List Nat) : savM g p (fileB ancN).data.toList = [savE (fileB ancN) g p] := upd_same _ _ _

theorem savM_o (g : Nat) (p : List Nat) (t : List UInt8) (h1 : t ≠ (fileA ancN).data.toList) (h2 : t ≠ (fileB ancN).data.toList) : savM g p t = [] := by
  unfold savM
  rw [upd_other _ _ _ _ h2, upd_other _ _ _ _ h1]

theorem savM_nil (g : Nat) (p : List Nat) : savM g p [] = [] := savM_o g p [] ancN_names.2.2.2.1 ancN_names.2.2.2.2

theorem savM_len (g : Nat) (p : List Nat) (t : List UInt8) : (savM g p t).length ≤ 1 := by
  by_cases h1 : t = (fileA ancN).data.toList
  · rw [h1, savM_A]; simp
  · by_cases h2 : t = (fileB ancN).data.toList
    · rw [h2, savM_B]; simp
    · rw [savM_o g p t h1 h2]; simp

theorem savM_full (g : Nat) (p : List Nat) (t : List UInt8) (x : Ext) (h : x ∈ savM g p t) : x.syn = x.dur ∧ x.wri = x.dur ∧ x.waits = false := by
  by_cases h1 : t = (fileA ancN).data.toList
  · rw [h1, savM_A] at h
    obtain rfl := List.mem_singleton.1 h
    exact ⟨rfl, rfl, rfl⟩
  · by_cases h2 : t = (fileB ancN).data.toList
    · rw [h2, savM_B] at h
      obtain rfl := List.mem_singleton.1 h
      exact ⟨rfl, rfl, rfl⟩
    · rw [savM_o g p t h1 h2] at h
      simp at h

theorem rd_one (s : ByteArray) (x : Ext) (g : Nat) (p : List Nat) (hr : x.rd = frameB (nums s) 0 g p) (hg : g ≤ 4611686018427387904) (hp : p.length ≤ 106) : rdO [x] (nums s) 0 = some (p, g) := by
  unfold rdO
  rw [if_neg (by omega)]
  show openB x.rd (nums s) 0 = _
  rw [hr]
  exact openB_frame _ 0 g p (by omega) hg hp

theorem rd_sav (s : ByteArray) (g : Nat) (p : List Nat) (hg : g ≤ 4611686018427387904) (hp : p.length ≤ 106) : rdO [savE s g p] (nums s) 0 = some (p, g) := rd_one s _ g p rfl hg hp

theorem sav_bad (g : Nat) (p : List Nat) (t : List UInt8) (hok : ∀ x ∈ savM g p t, x.ok) (hl : (savM g p t).length = 1) : ∃ Z, BadF (savM g p t) 1 Z := by
  refine ⟨fun j => (((savM g p t)[j]?).map Ext.dur).getD [], hl, fun j x hx => ?_⟩
  obtain ⟨a1, a2, a3⟩ := savM_full g p t x (List.mem_of_getElem? hx)
  have e : (((savM g p t)[j]?).map Ext.dur).getD [] = x.dur := by rw [hx]; rfl
  exact ⟨a1.trans e.symm, a2.trans e.symm, a3, hok x (List.mem_of_getElem? hx)⟩

theorem told_rdA {M M' : List UInt8 → List Ext} {s : ByteArray} (hT : ToldAt M' M s.data.toList (M' s.data.toList).length) (hl : (M' s.data.toList).length = (M s.data.toList).length) (i : Nat) : rdO (M' s.data.toList) (nums s) (i : Int) = none ∨ rdO (M' s.data.toList) (nums s) (i : Int) = rdO (M s.data.toList) (nums s) (i : Int) := by
  unfold rdO
  rw [if_neg (by omega), if_neg (by omega), Int.toNat_natCast]
  cases hx : (M' s.data.toList)[i]? with
  | none => exact .inl rfl
  | some x =>
    have hi := (List.getElem?_eq_some_iff.1 hx).1
    obtain ⟨y, hy⟩ : ∃ y, (M s.data.toList)[i]? = some y := ⟨_, List.getElem?_eq_getElem (by omega)⟩
    rw [hy]
    show openB x.rd (nums s) (i : Int) = none ∨ openB x.rd (nums s) (i : Int) = openB y.rd (nums s) (i : Int)
    by_cases h0 : openB x.rd (nums s) (i : Int) = none
    · exact .inl h0
    · have e : (⟨s.data.toList.toArray⟩ : ByteArray) = s := by cases s; simp
      have := hT i x y hi hx hy (by rw [e]; exact h0)
      rw [this]
      exact .inr rfl

/-- With one file turned the anchor is read as it was. -/
theorem sav_half (g : Nat) (p : List Nat) (hg : g ≤ 4611686018427387904) (hp : p.length ≤ 106) (f : ByteArray) (hf : f = fileA ancN ∨ f = fileB ancN) (l : List Ext) (hl : l.length = 1) (hT : ToldAt (upd (savM g p) f.data.toList l) (savM g p) f.data.toList (upd (savM g p) f.data.toList l f.data.toList).length) : getP (upd (savM g p) f.data.toList l) ancN 0 = some (p, g) := by
  have ht := told_rdA hT (by rw [upd_same, hl]; rcases hf with rfl | rfl; rw [savM_A]; rfl; rw [savM_B]; rfl) 0
  have rA := rd_sav (fileA ancN) g p hg hp
  have rB := rd_sav (fileB ancN) g p hg hp
  unfold getP
  rcases hf with rfl | rfl
  · rw [upd_other _ _ _ _ (file_ne ancN), savM_B, rB]
    rw [savM_A] at ht
    rcases ht with h1 | h1
    · rw [show ((0 : Nat) : Int) = 0 from rfl] at h1
      rw [h1]; rfl
    · rw [show ((0 : Nat) : Int) = 0 from rfl, rA] at h1
      rw [h1]; simp [getO]
  · rw [upd_other _ _ _ _ (Ne.symm (file_ne ancN)), savM_A, rA]
    rw [savM_B] at ht
    rcases ht with h1 | h1
    · rw [show ((0 : Nat) : Int) = 0 from rfl] at h1
      rw [h1]; rfl
    · rw [show ((0 : Nat) : Int) = 0 from rfl, rB] at h1
      rw [h1]; simp [getO]

theorem fell_one (kf : Int → Int) (x : Ext) : fellL kf [x] = [x.fell (kf 0)] := by simp [fellL]

theorem fell_calmA {x : Ext} (h : x.waits = false) (k : Int) : x.fell k = x := by
  unfold Ext.fell
  simp [h]

theorem fell_wrote (s : ByteArray) (g : Nat) (p z : List Nat) : (((savE s g p).wrote z).fell 0).rd = frameB (nums s) 0 g p := by
  simp [Ext.fell, Ext.crashed, Ext.wrote, savE_full, Ext.rd, clampK]

theorem sync_wrote (s : ByteArray) (x : Ext) (z : List Nat) : ((x.wrote z).synced).fell 0 = (x.wrote z).synced := fell_calmA rfl 0

theorem rd_synced (x : Ext) (z : List Nat) : ((x.wrote z).synced).rd = z := rfl

/-- What a second saving, that may stop, leaves: the anchor ahead, or the new one. -/
def AgainP (g : Nat) (p p2 : List Nat) (st' : St) (rv : Int) : Prop :=
  st'.M [] = [] ∧ ((getP (fun s => fellL (fun _ => 0) (st'.M s)) ancN 0 = some (p, g) ∧ rv ≠ 0) ∨ getP (fun s => fellL (fun _ => 0) (st'.M s)) ancN 0 = some (p2, g + 1))

theorem again_get (M : List UInt8 → List Ext) (xa xb : Ext) (hA : M (fileA ancN).data.toList = [xa]) (hB : M (fileB ancN).data.toList = [xb]) (qa qb : List Nat × Nat) (ha : rdO [xa.fell 0] (nums (fileA ancN)) 0 = some qa) (hb : rdO [xb.fell 0] (nums (fileB ancN)) 0 = some qb) : getP (fun s => fellL (fun _ => 0) (M s)) ancN 0 = if qa.2 < qb.2 then some qb else some qa := by
  show getO (rdO (fellL (fun _ => 0) (M (fileA ancN).data.toList)) (nums (fileA ancN)) 0) (rdO (fellL (fun _ => 0) (M (fileB ancN).data.toList)) (nums (fileB ancN)) 0) = _
  rw [hA, hB, fell_one, fell_one, ha, hb]
  rfl

theorem wr_old (M : List UInt8 → List Ext) (free : Int) (k : Nat) (nm : List UInt8) (x : Ext) (h : M nm = [x]) (z : List Nat) : wrD ⟨M, free, ((k + 1 : Nat) : Int)⟩ nm 0 z = (⟨upd M nm [x.wrote z], free, (k : Int)⟩, 0) := by
  unfold wrD
  simp only [h, List.length_singleton, List.getElem?_cons_zero]
  rw [if_neg (by omega), if_neg (by omega)]
  simp only [List.set_cons_zero, burnt]
  rw [if_neg (by omega)]
  simp

theorem wr_dead (M : List UInt8 → List Ext) (free : Int) (nm : List UInt8) (x : Ext) (h : M nm = [x]) (z : List Nat) : wrD ⟨M, free, 0⟩ nm 0 z = (⟨M, free, 0⟩, 31) := by
  unfold wrD
  simp [h]

theorem sy_old (M : List UInt8 → List Ext) (free : Int) (k : Nat) (nm : List UInt8) (x : Ext) : syD ⟨upd M nm [x], free, ((k + 1 : Nat) : Int)⟩ nm = (⟨upd M nm [x.synced], free, (k : Int)⟩, 0) := by
  unfold syD
  simp only [upd_same, upd_upd]
  rw [if_neg (by simp), if_neg (by omega)]
  simp only [burnt, List.map_cons, List.map_nil]
  rw [if_neg (by omega)]
  simp

theorem sy_dead (M : List UInt8 → List Ext) (free : Int) (nm : List UInt8) (x : Ext) : syD ⟨upd M nm [x], free, 0⟩ nm = (⟨upd M nm [x], free, 0⟩, 31) := by
  unfold syD
  simp [upd_same]

theorem again_put (g : Nat) (p p2 : List Nat) (free : Int) (hg : g + 1 ≤ 4611686018427387904) (hp : p.length ≤ 106) (hp2 : p2.length ≤ 106) (k : Nat) (hk : k < 5) : ∃ st' rv, putD ⟨savM g p, free, (k : Int)⟩ ancN 0 (g + 1) p2 = (st', rv) ∧ AgainP g p p2 st' rv := by
  have hne := file_ne ancN
  obtain ⟨_, _, _, nA, nB⟩ := ancN_names
  obtain ⟨fA, hfA⟩ : ∃ fA, fA = fileA ancN := ⟨_, rfl⟩
  obtain ⟨fB, hfB⟩ : ∃ fB, fB = fileB ancN := ⟨_, rfl⟩
  obtain ⟨M, hM⟩ : ∃ M, M = savM g p := ⟨_, rfl⟩
  have mA : M fA.data.toList = [savE fA g p] := by rw [hM, hfA]; exact savM_A g p
  have mB : M fB.data.toList = [savE fB g p] := by rw [hM, hfB]; exact savM_B g p
  have m0 : M [] = [] := by rw [hM]; exact savM_nil g p
  have cA : (savE fA g p).fell 0 = savE fA g p := fell_calmA rfl 0
  have cB : (savE fB g p).fell 0 = savE fB g p := fell_calmA rfl 0
  have oA := rd_sav fA g p (by omega) hp
  have oB := rd_sav fB g p (by omega) hp
  have wA : rdO [((savE fA g p).wrote (frameB (nums fA) 0 (g + 1) p2)).fell 0] (nums fA) 0 = some (p, g) := rd_one fA _ g p (fell_wrote fA g p _) (by omega) hp
  have wB : rdO [((savE fB g p).wrote (frameB (nums fB) 0 (g + 1) p2)).fell 0] (nums fB) 0 = some (p, g) := rd_one fB _ g p (fell_wrote fB g p _) (by omega) hp
  have sA : rdO [(((savE fA g p).wrote (frameB (nums fA) 0 (g + 1) p2)).synced).fell 0] (nums fA) 0 = some (p2, g + 1) := by rw [sync_wrote fA]; exact rd_one fA _ (g + 1) p2 (rd_synced _ _) hg hp2
  have sB : rdO [(((savE fB g p).wrote (frameB (nums fB) 0 (g + 1) p2)).synced).fell 0] (nums fB) 0 = some (p2, g + 1) := by rw [sync_wrote fB]; exact rd_one fB _ (g + 1) p2 (rd_synced _ _) hg hp2
  rw [← hM]
  rw [← hfA] at hne nA
  rw [← hfB] at hne nB
  have uA : ∀ x y, (upd (upd M fA.data.toList [x]) fB.data.toList [y]) fA.data.toList = [x] := fun x y => by rw [upd_other _ _ _ _ (Ne.symm hne), upd_same]
  have uB : ∀ x, (upd M fA.data.toList [x]) fB.data.toList = [savE fB g p] := fun x => by rw [upd_other _ _ _ _ hne, mB]
  have u0 : ∀ x, (upd M fA.data.toList [x]) [] = [] := fun x => by rw [upd_other _ _ _ _ nA, m0]
  have u00 : ∀ x y, (upd (upd M fA.data.toList [x]) fB.data.toList [y]) [] = [] := fun x y => by rw [upd_other _ _ _ _ nB, u0]
  have gets : ∀ (M : List UInt8 → List Ext) (xa xb : Ext), M fA.data.toList = [xa] → M fB.data.toList = [xb] → ∀ (qa qb : List Nat × Nat), rdO [xa.fell 0] (nums fA) 0 = some qa → rdO [xb.fell 0] (nums fB) 0 = some qb → getP (fun s => fellL (fun _ => 0) (M s)) ancN 0 = if qa.2 < qb.2 then some qb else some qa := by
    intro M xa xb
    rw [hfA, hfB]
    intro hA hB qa qb h1 h2
    exact again_get M xa xb hA hB qa qb h1 h2
  have pa : ∀ (st s1 : St) (v : Int), put1 st fA 0 (g + 1) p2 = (s1, v) → v ≠ 0 → putD st ancN 0 (g + 1) p2 = (s1, v) := by
    rw [hfA]
    intro st s1 v
    exact putD_a
  have pb : ∀ (st s1 s2 : St) (v : Int), put1 st fA 0 (g + 1) p2 = (s1, 0) → put1 s1 fB 0 (g + 1) p2 = (s2, v) → putD st ancN 0 (g + 1) p2 = (s2, v) := by
    rw [hfA, hfB]
    intro st s1 s2 v
    exact putD_b
  match k, hk with
  | 0, _ =>
    refine ⟨_, _, pa _ _ _ (put1_w rfl (wr_dead M free fA.data.toList _ mA _).symm (by decide)) (by decide), m0, .inl ⟨?_, by decide⟩⟩
    rw [gets M _ _ mA mB (p, g) (p, g) (by rw [cA]; exact oA) (by rw [cB]; exact oB)]
    simp
  | 1, _ =>
    refine ⟨_, _, pa _ _ _ (put1_s rfl (wr_old M free 0 fA.data.toList _ mA _).symm (sy_dead _ _ _ _).symm) (by decide), u0 _, .inl ⟨?_, by decide⟩⟩
    rw [gets _ _ _ (upd_same _ _ _) (uB _) (p, g) (p, g) wA (by rw [cB]; exact oB)]
    simp
  | 2, _ =>
    refine ⟨_, _, pb _ _ _ _ (put1_s rfl (wr_old M free 1 fA.data.toList _ mA _).symm (sy_old _ _ 0 _ _).symm) (put1_w rfl (wr_dead _ free fB.data.toList _ (uB _) _).symm (by decide)), u0 _, .inr ?_⟩
    rw [gets _ _ _ (upd_same _ _ _) (uB _) (p2, g + 1) (p, g) sA (by rw [cB]; exact oB)]
    rw [if_neg (by show ¬ (g + 1 < g); omega)]
  | 3, _ =>
    refine ⟨_, _, pb _ _ _ _ (put1_s rfl (wr_old M free 2 fA.data.toList _ mA _).symm (sy_old _ _ 1 _ _).symm) (put1_s rfl (wr_old _ free 0 fB.data.toList _ (uB _) _).symm (sy_dead _ _ _ _).symm), u00 _ _, .inr ?_⟩
    rw [gets _ _ _ (uA _ _) (upd_same _ _ _) (p2, g + 1) (p, g) sA wB]
    rw [if_neg (by show ¬ (g + 1 < g); omega)]
  | 4, _ =>
    refine ⟨_, _, pb _ _ _ _ (put1_s rfl (wr_old M free 3 fA.data.toList _ mA _).symm (sy_old _ _ 2 _ _).symm) (put1_s rfl (wr_old _ free 1 fB.data.toList _ (uB _) _).symm (sy_old _ _ 0 _ _).symm), u00 _ _, .inr ?_⟩
    rw [gets _ _ _ (uA _ _) (upd_same _ _ _) (p2, g + 1) (p2, g + 1) sA sB]
    simp
end Go.Proofs.YtoopdmfijbbfdaaDoor
