/- The document's disk over the plain state. -/
import Derived.Test.YtocfbokgbpaneaaTwP
import Derived.Test.YtocfbokgbpaneaaMk
import Derived.Test.YtocfbokgbpaneaaMl
import Derived.Test.YtocfbokgbpaneaaRyI
import Derived.Test.YtocfbokgbpaneaaRyK
import Derived.Test.YtocfbokgbpaneaaRyN
import Derived.Test.YtocfbokgbpaneaaRyO
import Derived.Test.YtocfbokgbpaneaaRyQ
import Derived.Test.YtocfbokgbpaneaaRyS
import Derived.Test.YtocfbokgbpaneaaRyB
namespace Go.Proofs.Ytocfbokgbpaneaa
open Go.RowKit Go.Maps
set_option linter.unusedVariables false

theorem ext_view : ∀ (R : List Yf) (s : ByteArray), (extY R s).map Yc.x = findV (viewY R) s
  | [], s => rfl
  | f :: R, s => by
    have ih := ext_view R s
    unfold extY placeY at ih ⊢
    unfold findV viewY at ih ⊢
    rw [List.findIdx?_cons, List.map_cons, List.find?_cons]
    by_cases h : f.name = s
    · simp only [h, decide_true, if_true]
      rfl
    · simp only [h, decide_false]
      rw [← ih]
      cases hp : R.findIdx? fun f => decide (f.name = s) with
      | none => rfl
      | some k => simp

theorem sum_view (R : List Yf) : sumV (viewY R) = sumL R := by
  unfold sumV viewY sumL
  rw [List.map_map]
  congr 1
  exact List.map_congr_left fun f _ => by simp

theorem ext_len (R : List Yf) (s : ByteArray) : (extY R s).length = (findV (viewY R) s).length := by
  rw [← ext_view, List.length_map]

/-- The document's disk holds the plain state. -/
def DiskY (w : World) (y : Nat) (F : Nat → Prop) (room : Int) (st : St) : Prop :=
  ∃ fa fc R, RyOf w y F fa fc R room st.fuse ∧ RelV (viewY R) room st

theorem DiskY.below {w w' : World} {y : Nat} {F : Nat → Prop} {room : Int} {st : St} (h : DiskY w y F room st) (hF : ∀ k, F k → k < w.heap.size) (hb : Below w.heap.size w w') : DiskY w' y F room st := by
  obtain ⟨fa, fc, R, h1, h2⟩ := h
  exact ⟨fa, fc, R, h1.below hF hb, h2⟩

theorem DiskY.other {w w' : World} {y : Nat} {F : Nat → Prop} {room : Int} {st : St} (h : DiskY w y F room st) (hb : ∀ k, F k → w'.heap[k]? = w.heap[k]?) : DiskY w' y F room st := by
  obtain ⟨fa, fc, R, h1, h2⟩ := h
  exact ⟨fa, fc, R, h1.other hb, h2⟩

def YPost (w : World) (y : Nat) (F : Nat → Prop) (room : Int) (r : St × Int) (e : Ending) (w' : World) : Prop :=
  e = .returned (.int .i64 r.2) ∧ ∃ F', DiskY w' y F' room r.1 ∧ Gr F F' w w'

theorem view_length (R : List Yf) : (viewY R).length = R.length := by simp [viewY]

theorem RelV.short {R : List Yf} {room : Int} {st : St} (h : RelV (viewY R) room st) : R.length ≤ 1000000 ∧ sumL R ≤ 100000 := by
  have h1 := sumV_len h.full
  have h2 := h.sum
  rw [view_length] at h1
  rw [sum_view] at h1 h2
  omega

theorem view_at {R : List Yf} {k : Nat} {f : Yf} (h : R[k]? = some f) : (viewY R)[k]? = some (f.name, f.l.map Yc.x) := by
  unfold viewY
  rw [List.getElem?_map, h]
  rfl

theorem view_set (R : List Yf) (k : Nat) (f' : Yf) : viewY (R.set k f') = (viewY R).set k (f'.name, f'.l.map Yc.x) := by
  unfold viewY
  rw [List.map_set]

theorem place_view {R : List Yf} {room : Int} {st : St} (h : RelV (viewY R) room st) {s : ByteArray} {k : Nat} {f : Yf} (hp : placeY R s = some k) (hf : R[k]? = some f) : f.name = s ∧ st.M s.data.toList = f.l.map Yc.x := by
  obtain ⟨f', hf', hn⟩ := place_at hp
  rw [hf] at hf'
  cases hf'
  refine ⟨hn, ?_⟩
  rw [h.ext, ← ext_view, extY_at hp hf]

theorem place_view_no {R : List Yf} {room : Int} {st : St} (h : RelV (viewY R) room st) {s : ByteArray} (hp : placeY R s = none) : st.M s.data.toList = [] ∧ ∀ p ∈ viewY R, p.1 ≠ s := by
  constructor
  · rw [h.ext, ← ext_view]
    unfold extY
    rw [hp]
    rfl
  · intro p hp'
    obtain ⟨f, hf, rfl⟩ := List.mem_map.1 hp'
    unfold placeY at hp
    have := List.findIdx?_eq_none_iff.1 hp f hf
    simpa using this

theorem ry_ok {w : World} {y : Nat} {F : Nat → Prop} {fa : Option Addr} {fc : Nat} {R : List Yf} {room fuse : Int} (h : RyOf w y F fa fc R room fuse) {k : Nat} {f : Yf} (hf : R[k]? = some f) : f.l ≠ [] := (h.ok f (List.mem_of_getElem? hf)).2.1

theorem getE_map {l : List Yc} {i : Nat} {c : Yc} (h : l[i]? = some c) : (l.map Yc.x)[i]? = some c.x := by
  rw [List.getElem?_map, h]; rfl

theorem sumL_at {R : List Yf} {k : Nat} {f : Yf} (hf : R[k]? = some f) (h : sumL R ≤ 100000) : f.l.length ≤ 100000 := by
  have h1 := sumL_take R k f hf
  have h2 := sumL_le R (k + 1)
  omega

theorem writeY_st (w : World) (y : Nat) (F : Nat → Prop) (room : Int) (st : St) (h : DiskY w y F room st) (hF : ∀ k, F k → k < w.heap.size) (s : ByteArray) (hs : nameB s.data.toList = true) (i ba boff cap : Nat) (zs : List Nat) (hB : BsF F w (some ⟨ba, boff, none⟩) 128 zs) :
    Calls Try.prog 16 #[.pointer (some ⟨y, 0, none⟩), .string s, .int .i64 (i : Int), .slice (some ⟨ba, boff, none⟩) 128 cap] w (YPost w y F room (wrD st s.data.toList i zs)) := by
  obtain ⟨fa, fc, R, hR, hV⟩ := h
  obtain ⟨hl, hsm⟩ := hV.short
  have hsz : s.size ≤ maxLen := by have := (nameB_size hs).2; unfold maxLen; omega
  have hlen : (extY R s).length = (st.M s.data.toList).length := by rw [ext_len, hV.ext]
  by_cases h1 : (st.M s.data.toList).length < i
  · refine (writeY_arg w y F fa fc R room st.fuse hR hF s hsz hl i _ (hidn rfl) _ 128 cap (by decide) (Or.inr (Or.inr (Or.inr (by omega))))).mono ?_
    rintro e w' ⟨rfl, hb⟩
    have e1 : wrD st s.data.toList i zs = (st, 1) := by unfold wrD; rw [if_pos h1]
    rw [e1]
    exact ⟨rfl, F, ⟨fa, fc, R, hR.below hF hb, hV⟩, Gr.of (Keeps.of_below hb)⟩
  · by_cases h2 : st.fuse = 0
    · rw [h2] at hR
      refine (writeY_dead w y F fa fc R room hR hF s hs hl i _ (hidn rfl) (by omega) _ cap).mono ?_
      rintro e w' ⟨rfl, hb⟩
      have e1 : wrD st s.data.toList i zs = (st, 31) := by unfold wrD; rw [if_neg h1, if_pos h2]
      rw [e1]
      exact ⟨rfl, F, ⟨fa, fc, R, by rw [h2]; exact hR.below hF hb, hV⟩, Gr.of (Keeps.of_below hb)⟩
    · have hbu := burnt_ok hV.fuse0 h2 hV.fuse1
      by_cases h3 : i < (st.M s.data.toList).length
      · cases hp : placeY R s with
        | none => rw [(place_view_no hV hp).1] at h3; simp at h3
        | some k =>
          obtain ⟨f, hf, _⟩ := place_at hp
          obtain ⟨hn, hM⟩ := place_view hV hp hf
          rw [hM, List.length_map] at h3
          obtain ⟨c, hc⟩ : ∃ c, f.l[i]? = some c := ⟨_, List.getElem?_eq_getElem h3⟩
          refine (writeY_old w y F fa fc R room st.fuse hR hF s hs hl hV.room0 hV.room1 hsm h2 hV.fuse0 hV.fuse1 i ba cap boff zs hB _ (hidn rfl) (by rw [hlen, hM, List.length_map]; exact h3) k f c hp hf hc).mono ?_
          rintro e w' ⟨rfl, F', fa', fc', R2, hR2, ⟨c', hc', rfl⟩, hG⟩
          have e1 : wrD st s.data.toList i zs = (⟨upd st.M s.data.toList ((st.M s.data.toList).set i (c.x.wrote zs)), st.free, burnt st.fuse⟩, 0) := by
            unfold wrD
            rw [if_neg h1, if_neg h2, hM, getE_map hc]
          rw [e1]
          refine ⟨rfl, F', ⟨fa', fc', _, hR2, ?_⟩, hG⟩
          rw [view_set]
          have e2 : ((setF f i c').name, (setF f i c').l.map Yc.x) = (s, (st.M s.data.toList).set i (c.x.wrote zs)) := by
            unfold setF
            rw [hM, List.map_set, hc', hn]
          rw [e2]
          have hk := view_at hf
          rw [hn, ← hM] at hk
          refine hV.upd hk _ ?_ _ _ (by rw [List.length_set]; omega) hV.free0 hbu.1 hbu.2
          intro e
          have := congrArg List.length e
          rw [List.length_set, hM, List.length_map] at this
          exact absurd (List.length_eq_zero_iff.1 this) (ry_ok hR hf)
      · have hin : i = (st.M s.data.toList).length := by omega
        have hx : (st.M s.data.toList)[i]? = none := List.getElem?_eq_none (by omega)
        have hfree := hV.free
        rw [sum_view] at hfree
        by_cases h4 : st.free = 0
        · refine (writeY_full w y F fa fc R room st.fuse hR hF s hs hl hV.room0 hV.room1 hsm h2 hV.fuse0 hV.fuse1 i ba cap boff zs hB _ (hidn rfl) (by omega) (by omega)).mono ?_
          rintro e w' ⟨rfl, F', fa', fc', R2, hR2, rfl, hG⟩
          have e1 : wrD st s.data.toList i zs = (⟨st.M, st.free, burnt st.fuse⟩, 4) := by
            unfold wrD
            rw [if_neg h1, if_neg h2, hx]
            simp only [h4, if_true]
          rw [e1]
          exact ⟨rfl, F', ⟨fa', fc', _, hR2, hV.turn _ hbu.1 hbu.2⟩, hG⟩
        · have e1 : wrD st s.data.toList i zs = (⟨upd st.M s.data.toList (st.M s.data.toList ++ [zeroE.wrote zs]), st.free - 1, burnt st.fuse⟩, 0) := by
            unfold wrD
            rw [if_neg h1, if_neg h2, hx]
            simp only []
            rw [if_neg h4]
          have hf0 := hV.free0
          rw [e1]
          cases hp : placeY R s with
          | some k =>
            obtain ⟨f, hf, _⟩ := place_at hp
            obtain ⟨hn, hM⟩ := place_view hV hp hf
            refine (writeY_new w y F fa fc R room st.fuse hR hF s hs hl hV.room0 hV.room1 hsm h2 hV.fuse0 hV.fuse1 i ba cap boff zs hB _ (hidn rfl) (by omega) (by omega) k f hp hf).mono ?_
            rintro e w' ⟨rfl, F', fa', fc', R2, hR2, ⟨c', g2, c2, hc', rfl⟩, hG⟩
            refine ⟨rfl, F', ⟨fa', fc', _, hR2, ?_⟩, hG⟩
            rw [view_set]
            have e2 : ((⟨f.name, g2, c2, f.l ++ [c']⟩ : Yf).name, (⟨f.name, g2, c2, f.l ++ [c']⟩ : Yf).l.map Yc.x) = (s, st.M s.data.toList ++ [zeroE.wrote zs]) := by
              rw [hM, ← hc', ← hn, List.map_append]
              rfl
            rw [e2]
            have hk := view_at hf
            rw [hn, ← hM] at hk
            exact hV.upd hk _ (by simp) _ _ (by rw [List.length_append, List.length_singleton]; omega) (by omega) hbu.1 hbu.2
          | none =>
            obtain ⟨hM, hno⟩ := place_view_no hV hp
            refine (writeY_newf w y F fa fc R room st.fuse hR hF s hs hl hV.room0 hV.room1 hsm h2 hV.fuse0 hV.fuse1 i ba cap boff zs hB _ (hidn rfl) (by omega) (by omega) hp).mono ?_
            rintro e w' ⟨rfl, F', fa', fc', R2, hR2, ⟨k, c', g2, c2, ⟨hk, hlo, hhi⟩, hc', rfl⟩, hG⟩
            refine ⟨rfl, F', ⟨fa', fc', _, hR2, ?_⟩, hG⟩
            have e2 : viewY (R.take k ++ (⟨s, g2, c2, [c']⟩ : Yf) :: R.drop k) = (viewY R).take k ++ (s, [zeroE.wrote zs]) :: (viewY R).drop k := by
              unfold viewY
              rw [List.map_append, List.map_cons, List.map_take, List.map_drop, ← hc']
              rfl
            rw [e2, hM, List.nil_append]
            refine hV.ins _ hs hno (by rw [view_length]; exact hk) (fun j p hj hpj => ?_) (fun p hpk => ?_) _ _ rfl (by omega) hbu.1 hbu.2
            · unfold viewY at hpj
              rw [List.getElem?_map] at hpj
              obtain ⟨f, hf, rfl⟩ := Option.map_eq_some_iff.1 hpj
              have := hlo j hj f hf
              rw [Go.Proofs.bytesLess_eq, ByteArray.toList_eq, ByteArray.toList_eq] at this
              exact of_decide_eq_true this
            · unfold viewY at hpk
              rw [List.getElem?_map] at hpk
              obtain ⟨f, hf, rfl⟩ := Option.map_eq_some_iff.1 hpk
              have := hhi f hf
              rw [Go.Proofs.bytesLess_eq, ByteArray.toList_eq, ByteArray.toList_eq] at this
              exact of_decide_eq_false this

theorem syncY_st (w : World) (y : Nat) (F : Nat → Prop) (room : Int) (st : St) (h : DiskY w y F room st) (hF : ∀ k, F k → k < w.heap.size) (s : ByteArray) :
    Calls Try.prog 18 #[.pointer (some ⟨y, 0, none⟩), .string s] w (YPost w y F room (syD st s.data.toList)) := by
  obtain ⟨fa, fc, R, hR, hV⟩ := h
  obtain ⟨hl, hsm⟩ := hV.short
  cases hp : placeY R s with
  | none =>
    have hM := (place_view_no hV hp).1
    refine (syncY_none w y F fa fc R room st.fuse hR hF s hl hp).mono ?_
    rintro e w' ⟨rfl, hb⟩
    have e1 : syD st s.data.toList = (st, 30) := by unfold syD; rw [if_pos hM]
    rw [e1]
    exact ⟨rfl, F, ⟨fa, fc, R, hR.below hF hb, hV⟩, Gr.of (Keeps.of_below hb)⟩
  | some k =>
    obtain ⟨f, hf, _⟩ := place_at hp
    obtain ⟨hn, hM⟩ := place_view hV hp hf
    have hne : st.M s.data.toList ≠ [] := by rw [hM]; simpa using ry_ok hR hf
    by_cases h2 : st.fuse = 0
    · rw [h2] at hR
      refine (syncY_dead w y F fa fc R room hR hF s hl k hp).mono ?_
      rintro e w' ⟨rfl, hb⟩
      have e1 : syD st s.data.toList = (st, 31) := by unfold syD; rw [if_neg hne, if_pos h2]
      rw [e1]
      exact ⟨rfl, F, ⟨fa, fc, R, by rw [h2]; exact hR.below hF hb, hV⟩, Gr.of (Keeps.of_below hb)⟩
    · have hbu := burnt_ok hV.fuse0 h2 hV.fuse1
      refine (syncY_yes w y F fa fc R room st.fuse hR hF s hl k f hp hf (sumL_at hf hsm) h2 hV.fuse0 hV.fuse1).mono ?_
      rintro e w' ⟨rfl, F', fa', fc', R2, hR2, ⟨l, hll, hlm, rfl⟩, hG⟩
      have e1 : syD st s.data.toList = (⟨upd st.M s.data.toList ((st.M s.data.toList).map Ext.synced), st.free, burnt st.fuse⟩, 0) := by unfold syD; rw [if_neg hne, if_neg h2]
      rw [e1]
      refine ⟨rfl, F', ⟨fa', fc', _, hR2, ?_⟩, hG⟩
      rw [view_set]
      have e2 : ((setL f l).name, (setL f l).l.map Yc.x) = (s, (st.M s.data.toList).map Ext.synced) := by
        unfold setL
        rw [hM, ← hlm, hn]
      rw [e2]
      have hk := view_at hf
      rw [hn, ← hM] at hk
      exact hV.upd hk _ (by simpa using hne) _ _ (by rw [List.length_map]; omega) hV.free0 hbu.1 hbu.2

theorem removeY_st (w : World) (y : Nat) (F : Nat → Prop) (room : Int) (st : St) (h : DiskY w y F room st) (hF : ∀ k, F k → k < w.heap.size) (s : ByteArray) :
    Calls Try.prog 20 #[.pointer (some ⟨y, 0, none⟩), .string s] w (YPost w y F room (rmD st s.data.toList)) := by
  obtain ⟨fa, fc, R, hR, hV⟩ := h
  obtain ⟨hl, hsm⟩ := hV.short
  cases hp : placeY R s with
  | none =>
    have hM := (place_view_no hV hp).1
    refine (removeY_none w y F fa fc R room st.fuse hR hF s hl hp).mono ?_
    rintro e w' ⟨rfl, hb⟩
    have e1 : rmD st s.data.toList = (st, 30) := by unfold rmD; rw [if_pos hM]
    rw [e1]
    exact ⟨rfl, F, ⟨fa, fc, R, hR.below hF hb, hV⟩, Gr.of (Keeps.of_below hb)⟩
  | some k =>
    obtain ⟨f, hf, _⟩ := place_at hp
    obtain ⟨hn, hM⟩ := place_view hV hp hf
    have hne : st.M s.data.toList ≠ [] := by rw [hM]; simpa using ry_ok hR hf
    by_cases h2 : st.fuse = 0
    · rw [h2] at hR
      refine (removeY_dead w y F fa fc R room hR hF s hl k hp).mono ?_
      rintro e w' ⟨rfl, hb⟩
      have e1 : rmD st s.data.toList = (st, 31) := by unfold rmD; rw [if_neg hne, if_pos h2]
      rw [e1]
      exact ⟨rfl, F, ⟨fa, fc, R, by rw [h2]; exact hR.below hF hb, hV⟩, Gr.of (Keeps.of_below hb)⟩
    · have hbu := burnt_ok hV.fuse0 h2 hV.fuse1
      refine (removeY_yes w y F fa fc R room st.fuse hR hF s hl k hp h2 hV.fuse0 hV.fuse1).mono ?_
      rintro e w' ⟨rfl, F', fa', fc', R2, hR2, rfl, hG⟩
      have e1 : rmD st s.data.toList = (⟨upd st.M s.data.toList [], st.free + ((st.M s.data.toList).length : Int), burnt st.fuse⟩, 0) := by unfold rmD; rw [if_neg hne, if_neg h2]
      rw [e1]
      refine ⟨rfl, F', ⟨fa', fc', _, hR2, ?_⟩, hG⟩
      have e2 : viewY (R.take k ++ R.drop (k + 1)) = (viewY R).take k ++ (viewY R).drop (k + 1) := by
        unfold viewY
        rw [List.map_append, List.map_take, List.map_drop]
      rw [e2]
      have hk := view_at hf
      rw [hn, ← hM] at hk
      exact hV.del hk _ hbu.1 hbu.2

theorem rotY_st (w : World) (y : Nat) (F : Nat → Prop) (room : Int) (st : St) (h : DiskY w y F room st) (hF : ∀ k, F k → k < w.heap.size) (s : ByteArray) (i at2 : Int) (mk : Nat) (hm : mk < 256) :
    Calls Try.prog 22 #[.pointer (some ⟨y, 0, none⟩), .string s, .int .i64 i, .int .i64 at2, .int .u8 (mk : Int)] w (YPost w y F room (rotD st s.data.toList i at2 mk)) := by
  obtain ⟨fa, fc, R, hR, hV⟩ := h
  obtain ⟨hl, hsm⟩ := hV.short
  have hlen : (extY R s).length = (st.M s.data.toList).length := by rw [ext_len, hV.ext]
  have none30 : (i < 0 ∨ ((extY R s).length : Int) ≤ i) → rotD st s.data.toList i at2 mk = (st, 30) → Calls Try.prog 22 #[.pointer (some ⟨y, 0, none⟩), .string s, .int .i64 i, .int .i64 at2, .int .u8 (mk : Int)] w (YPost w y F room (rotD st s.data.toList i at2 mk)) := by
    intro hi e1
    refine (rotY_none w y F fa fc R room st.fuse hR hF s hl i _ (hidn rfl) hi _ _).mono ?_
    rintro e w' ⟨rfl, hb⟩
    rw [e1]
    exact ⟨rfl, F, ⟨fa, fc, R, hR.below hF hb, hV⟩, Gr.of (Keeps.of_below hb)⟩
  by_cases h1 : i < 0
  · exact none30 (.inl h1) (by unfold rotD; rw [if_pos h1])
  · obtain ⟨j, rfl⟩ : ∃ j : Nat, i = (j : Int) := ⟨i.toNat, by omega⟩
    cases hx : (st.M s.data.toList)[j]? with
    | none => exact none30 (.inr (by have := List.getElem?_eq_none_iff.1 hx; omega)) (by unfold rotD; rw [if_neg h1, Int.toNat_natCast, hx])
    | some x =>
      have hlt := (List.getElem?_eq_some_iff.1 hx).1
      by_cases h2 : at2 < 0 ∨ 128 ≤ at2
      · refine (rotY_arg w y F fa fc R room st.fuse hR hF s hl j _ (hidn rfl) (by omega) at2 h2 _).mono ?_
        rintro e w' ⟨rfl, hb⟩
        have e1 : rotD st s.data.toList (j : Int) at2 mk = (st, 1) := by unfold rotD; rw [if_neg h1, Int.toNat_natCast, hx]; simp only []; rw [if_pos h2]
        rw [e1]
        exact ⟨rfl, F, ⟨fa, fc, R, hR.below hF hb, hV⟩, Gr.of (Keeps.of_below hb)⟩
      · obtain ⟨k2, rfl⟩ : ∃ k2 : Nat, at2 = (k2 : Int) := ⟨at2.toNat, by omega⟩
        cases hp : placeY R s with
        | none => rw [(place_view_no hV hp).1] at hx; simp at hx
        | some k =>
          obtain ⟨f, hf, _⟩ := place_at hp
          obtain ⟨hn, hM⟩ := place_view hV hp hf
          rw [hM, List.getElem?_map] at hx
          obtain ⟨c, hc, rfl⟩ := Option.map_eq_some_iff.1 hx
          refine (rotY_yes w y F fa fc R room st.fuse hR hF s hl j k f c hp hf hc (sumL_at hf hsm) k2 (by omega) mk hm).mono ?_
          rintro e w' ⟨rfl, F', fa', fc', R2, hR2, ⟨c', hc', rfl⟩, hG⟩
          have e1 : rotD st s.data.toList (j : Int) (k2 : Int) mk = (⟨upd st.M s.data.toList ((st.M s.data.toList).set j (c.x.rot k2 mk)), st.free, st.fuse⟩, 0) := by unfold rotD; rw [if_neg h1, Int.toNat_natCast, hM, getE_map hc]; simp only []; rw [if_neg h2, Int.toNat_natCast]
          rw [e1]
          refine ⟨rfl, F', ⟨fa', fc', _, hR2, ?_⟩, hG⟩
          rw [view_set]
          have e2 : ((setF f j c').name, (setF f j c').l.map Yc.x) = (s, (st.M s.data.toList).set j (c.x.rot k2 mk)) := by
            unfold setF
            rw [hM, List.map_set, hc', hn]
          rw [e2]
          have hk := view_at hf
          rw [hn, ← hM] at hk
          refine hV.upd hk _ ?_ _ _ (by rw [List.length_set]; omega) hV.free0 hV.fuse0 hV.fuse1
          intro e
          have := congrArg List.length e
          rw [List.length_set] at this
          simp only [List.length_nil] at this
          omega

theorem fuseY_st (w : World) (y : Nat) (F : Nat → Prop) (room : Int) (st : St) (h : DiskY w y F room st) (n : Int) (hn : n ≤ 9223372036854775807) :
    Calls Try.prog 26 #[.pointer (some ⟨y, 0, none⟩), .int .i64 n] w (YPost w y F room (fuD st n)) := by
  obtain ⟨fa, fc, R, hR, hV⟩ := h
  refine (fuseY_any w y F fa fc R room st.fuse hR n).mono ?_
  rintro e w' ⟨rfl, hR2, hG⟩
  by_cases h1 : n < 0
  · have e1 : fuD st n = (st, 1) := by unfold fuD; rw [if_pos h1]
    rw [e1]
    rw [if_pos h1] at hR2 ⊢
    exact ⟨rfl, F, ⟨fa, fc, R, hR2, hV⟩, hG⟩
  · have e1 : fuD st n = (⟨st.M, st.free, n⟩, 0) := by unfold fuD; rw [if_neg h1]
    rw [e1]
    rw [if_neg h1] at hR2 ⊢
    exact ⟨rfl, F, ⟨fa, fc, R, hR2, hV.turn n (by omega) hn⟩, hG⟩

theorem crashY_st (w : World) (y : Nat) (F : Nat → Prop) (room : Int) (st : St) (h : DiskY w y F room st) (hF : ∀ k, F k → k < w.heap.size) (la : Option Addr) (ll lc : Nat) (ks : List Kp) (hks : Kps w la ll ks) (hkF : ∀ x, la = some x → 0 < ll → ¬ F x.block) :
    Calls Try.prog 24 #[.pointer (some ⟨y, 0, none⟩), .slice la ll lc] w (YPost w y F room (crD st ks)) := by
  obtain ⟨fa, fc, R, hR, hV⟩ := h
  obtain ⟨hl, hsm⟩ := hV.short
  refine (crashY_any w y F fa fc R room st.fuse hR hF hl hsm la ll lc ks hks hkF).mono ?_
  rintro e w' ⟨rfl, F', fa', fc', R2, hR2, ⟨hlen, hat⟩, hG⟩
  refine ⟨rfl, F', ⟨fa', fc', R2, hR2, ?_⟩, hG⟩
  have e2 : viewY R2 = (viewY R).map fun p => (p.1, fellL (kfOf ks p.1.data.toList) p.2) := by
    unfold viewY
    rw [List.map_map]
    refine List.ext_getElem? fun k => ?_
    rw [List.getElem?_map, List.getElem?_map]
    cases hk : R[k]? with
    | none =>
      rw [List.getElem?_eq_none (by rw [hlen]; exact List.getElem?_eq_none_iff.1 hk)]
      rfl
    | some f =>
      obtain ⟨f', hf', hn, hx⟩ := hat k f hk
      rw [hf']
      simp only [Option.map_some, Function.comp, hn, hx]
  rw [e2]
  exact hV.all (fun s l => fellL (kfOf ks s) l) (fun s l => fellL_length _ _) (-1) (by omega) (by omega)
end Go.Proofs.Ytocfbokgbpaneaa

namespace Go.Proofs.Ytocfbokgbpaneaa
open Go.RowKit Go.Maps
set_option linter.unusedVariables false

theorem info_str : ∃ i0, Try.prog.info? 9 = some i0 ∧ i0.zero = some (.string ⟨#[]⟩) ∧ i0.size = 1 ∧ i0.bytes = 16 := by
  have h : (Try.prog.info? 9).map (fun i => (i.zero, i.size, i.bytes)) = some (some (.string ⟨#[]⟩), 1, 16) := by kernel_rfl
  obtain ⟨i0, hi, h1, h2, h3⟩ := info_parts h
  exact ⟨i0, hi, h1, h2, h3⟩

def namesV (R : List Yf) : List Value := R.map fun f => .string f.name

theorem namesV_take (R : List Yf) (k : Nat) (f : Yf) (h : R[k]? = some f) : namesV (R.take (k + 1)) = namesV (R.take k) ++ [.string f.name] := by
  have hk := (List.getElem?_eq_some_iff.1 h)
  unfold namesV
  rw [List.take_succ_eq_append_getElem hk.1, List.map_append, hk.2]
  rfl

theorem own_slY {w : World} {base e size n : Nat} {v : Value} {xs : List Value} (h : w.ownsRow base e size v n xs) : ∃ a c, v = .slice a n c := by
  rcases h.2 with ⟨rfl, rfl⟩ | ⟨g, cap, cur, rfl, _⟩
  · exact ⟨none, 0, rfl⟩
  · exact ⟨_, _, rfl⟩

set_option maxRecDepth 100000 in
set_option maxHeartbeats 2000000 in
theorem listY_any (w : World) (y : Nat) (F : Nat → Prop) (fa : Option Addr) (fc : Nat) (R : List Yf) (room fuse : Int) (h : RyOf w y F fa fc R room fuse) (hF : ∀ k, F k → k < w.heap.size) (hR : R.length ≤ 1000000) :
    Calls Try.prog 27 #[.pointer (some ⟨y, 0, none⟩)] w fun e w' => ∃ v, e = .returned v ∧ w'.ownsRow w.heap.size 9 1 v R.length (namesV R) ∧ Below w.heap.size w w' := by
  have H := hidn h
  have HF := hidn hF
  have c1 : w.cell? ⟨y, 1, none⟩ = some (.slice fa R.length fc) := by rw [cell_of_row _ _ _ _ _ _ h.disk]; rfl
  obtain ⟨n, hn⟩ : ∃ n, n = R.length := ⟨_, rfl⟩
  rw [← hn] at c1 hR
  have HN := hidn hn
  obtain ⟨i0, hi, hz0, hz1, hz2⟩ := info_str
  clear h hF hn
  go_enter Try.func27, Try.ntmps27
  go_wp2_with fail
  clear c1
  go_loopw [11, 3] (fun iv ov wr => ∃ k : Nat, k ≤ n ∧ iv = .int .i64 (k : Int) ∧ Hid (wr.ownsRow w.heap.size 9 1 ov k (namesV (R.take k))) ∧ Hid (Below w.heap.size w wr)) (fun iv _ _ => n - (intOf iv).toNat)
  case atStart => exact ⟨0, Nat.zero_le _, rfl, hidn (World.ownsRow_nil _ _ _ _), hidn (Below.refl _ _)⟩
  case round =>
    obtain ⟨k, hk, rfl, HO, HB⟩ := hrel
    by_cases hlt : k < n
    · have hlt2 : (k : Int) < (n : Int) := by omega
      obtain ⟨f, hf⟩ : ∃ f, R[k]? = some f := ⟨_, List.getElem?_eq_getElem (by rw [← HN.out]; exact hlt)⟩
      obtain ⟨g, hfa, hFg, hc0, hc1⟩ := (H.out.below HF.out HB.out).at hf
      subst hfa
      obtain ⟨nm, hnm⟩ : ∃ nm, nm = f.name := ⟨_, rfl⟩
      have htk := namesV_take R k f hf
      rw [← hnm] at hc0 htk
      unfold Yf.row at hc1
      obtain ⟨fg, hfg⟩ : ∃ fg, fg = f.g := ⟨_, rfl⟩
      obtain ⟨fl, hfl⟩ : ∃ fl, fl = f.l.length := ⟨_, rfl⟩
      obtain ⟨fcc, hfcc⟩ : ∃ fcc, fcc = f.c := ⟨_, rfl⟩
      rw [← hfg, ← hfl, ← hfcc] at hc1
      obtain ⟨va, vc, e9⟩ := own_slY HO.out
      obtain ⟨W1, hW1⟩ : ∃ W1, W1 = wr.alloc (.cells #[.string nm, .slice (some ⟨fg, 0, none⟩) fl fcc] 55) := ⟨_, rfl⟩
      have hB1 : Below wr.heap.size wr W1 := by rw [hW1]; exact (Below.refl _ _).alloc (Nat.le_refl _) _
      have hs1 : W1.heap.size = wr.heap.size + 1 := by rw [hW1, World.size_alloc]
      have hB2 : Below wr.heap.size wr (W1.alloc (.cells #[.string nm] 9)) := hB1.alloc hB1.size _
      have ho2 := own_other HO.out (w' := W1.alloc (.cells #[.string nm] 9)) (fun b hb => hB2.block b (own_lt HO.out b hb))
      obtain ⟨g4, c4, w4, hrun, hown4, hgr4, hpl4⟩ := appN (P := Try.prog) (W1.alloc (.cells #[.string nm] 9)) 66 66 9 i0 (.string ⟨#[]⟩) 1 16 Try.underlying66 hi hz0 hz1 hz2 rfl (by decide) _ k _ w.heap.size ho2 (by rw [World.size_alloc, hs1]; have := HB.out.size; omega) ⟨W1.heap.size, 0, none⟩ 1 1 (by omega) [.string nm] rfl (fun j u hu => by
        match j, hu with
        | 0, hu => cases hu; rw [add_none]; exact cell_of_row _ _ _ _ _ _ (heap_alloc_new _ _)) (fun u hu => by simp at hu; subst hu; rfl) (by unfold maxLen; omega) (by omega)
      rw [← htk] at hown4
      have hB4 : Below w.heap.size w w4 := (HB.out.trans (hB2.mono HB.out.size)).grown hgr4 (by rw [World.size_alloc, hs1]; have := HB.out.size; omega) (fun b hb => (HO.out.lt b hb).1)
      rw [hs1, hW1] at hrun
      have HRUN := hidn hrun
      have HN4 := hidn (And.intro hown4 hB4)
      subst e9
      clear hrun hown4 hgr4 hpl4 hB4 hB1 hB2 ho2 htk hf hnm hfg hfl hfcc hFg HO hs1 hW1
      go_wp2_with (at_builtin; refine wpList_app_run2 rfl _ _ 66 66 rfl rfl (.slice va k vc) _ _ rfl rfl HRUN.out ?_; clear HRUN)
      go_roundw
      case rel => exact ⟨k + 1, hlt, by simp, hidn HN4.out.1, hidn HN4.out.2⟩
      case measure => simp [intOf]; omega
    · have hlt2 : ¬ (k : Int) < (n : Int) := by omega
      have hkn : k = n := by omega
      have hO := HO.out
      rw [hkn, HN.out, List.take_length] at hO
      have HO2 := hidn hO
      clear hO hkn
      go_wp2
      go_ret
      exact ⟨_, rfl, HO2.out, HB.out⟩
end Go.Proofs.Ytocfbokgbpaneaa
