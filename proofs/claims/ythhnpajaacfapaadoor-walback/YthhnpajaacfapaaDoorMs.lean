/- Pairs: dryrotplain's Half and Told. -/
import Derived.Test.YthhnpajaacfapaaDoorMr
import Derived.Test.YthhnpajaacfapaaDoorDiskList
import Derived.Test.YthhnpajaacfapaaDoorDiskRot
import Derived.Test.YthhnpajaacfapaaDoorMe
namespace Go.Proofs.YthhnpajaacfapaaDoor
open Go.RowKit Go.Maps
set_option linter.unusedVariables false
/-- Numbers that came in. -/
def Ils (w : World) (a : Option Addr) (len : Nat) (xs : List Int) : Prop :=
  xs.length = len ∧ len ≤ maxLen ∧ (a = none → len = 0) ∧ ∀ x, a = some x → ∀ j b, xs[j]? = some b → w.cell? (x.add j) = some (.int .i64 b)
theorem Ils.below {w w' : World} {a : Option Addr} {len : Nat} {bs : List Int} (h : Ils w a len bs) (hb : Below w.heap.size w w') : Ils w' a len bs := by
  obtain ⟨h1, h2, h3, h4⟩ := h
  refine ⟨h1, h2, h3, fun x hx j b hj => ?_⟩
  have := h4 x hx j b hj
  exact (hb.cell (block_lt_of_cell this)).trans this
theorem Ils.at {w : World} {a : Option Addr} {len j : Nat} {bs : List Int} {c : Int} (h : Ils w a len bs) (hj : bs[j]? = some c) : ∃ b off, a = some ⟨b, off, none⟩ ∧ w.cell? ⟨b, off + j, none⟩ = some (.int .i64 c) := by
  obtain ⟨h1, h2, h3, h4⟩ := h
  have hjl : j < bs.length := (List.getElem?_eq_some_iff.1 hj).1
  cases a with
  | none => have := h3 rfl; omega
  | some x =>
    obtain ⟨b, off, spot⟩ := x
    obtain ⟨c0, hc0⟩ : ∃ c0, bs[0]? = some c0 := ⟨_, List.getElem?_eq_getElem (by omega)⟩
    have hspot : spot = none := by simpa [Addr.add] using World.cell?_spot (h4 _ rfl 0 c0 hc0)
    subst hspot
    have := h4 _ rfl j c hj
    rw [add_none] at this
    exact ⟨b, off, rfl, this⟩
/-- A file whose durable bytes may be any. -/
def BadF (l : List Ext) (E : Nat) (Z : Nat → List Nat) : Prop := l.length = E ∧ ∀ j x, l[j]? = some x → x.syn = Z j ∧ x.wri = Z j ∧ x.waits = false ∧ x.ok
theorem BadF.rot {l : List Ext} {E : Nat} {Z : Nat → List Nat} (h : BadF l E Z) (j : Nat) (x : Ext) (hx : l[j]? = some x) (k m : Nat) (hk : k < 128) (hm : m < 256) : BadF (l.set j (x.rot k m)) E Z := by
  refine ⟨by rw [List.length_set]; exact h.1, fun i y hy => ?_⟩
  by_cases hi : i = j
  · subst hi
    have hl := (List.getElem?_eq_some_iff.1 hx).1
    rw [List.getElem?_set_self hl] at hy
    cases hy
    obtain ⟨a1, a2, a3, a4⟩ := h.2 i x hx
    exact ⟨a1, a2, a3, Ext.rot_ok a4 hk hm⟩
  · rw [List.getElem?_set_ne (fun e => hi e.symm)] at hy
    exact h.2 i y hy
theorem uwrapH (x : Int) : ∃ u : Nat, IntKind.u64.wrap x = (u : Int) ∧ u < 18446744073709551616 := by
  refine ⟨(IntKind.u64.wrap x).toNat, ?_, ?_⟩ <;> rw [IntKind.wrap_u64] <;> omega
theorem shr_modH (x : Int) : ∃ p : Nat, wrap64 ((IntKind.u64.wrap (x / 256)).tmod 128) = (p : Int) ∧ p < 128 := by
  have hU : 0 ≤ IntKind.u64.wrap (x / 256) := by rw [IntKind.wrap_u64]; omega
  have h1 : (IntKind.u64.wrap (x / 256)).tmod 128 = IntKind.u64.wrap (x / 256) % 128 := Int.tmod_eq_emod_of_nonneg hU
  have h2 := Int.emod_nonneg (IntKind.u64.wrap (x / 256)) (show (128 : Int) ≠ 0 by omega)
  have h3 := Int.emod_lt_of_pos (IntKind.u64.wrap (x / 256)) (show (0 : Int) < 128 by omega)
  rw [h1]
  generalize IntKind.u64.wrap (x / 256) % 128 = r at *
  refine ⟨r.toNat, ?_, by omega⟩
  unfold wrap64
  omega
def HalfPost (w : World) (d : Nat) (F : Nat → Prop) (N : Nat) (M : List UInt8 → List Ext) (free fuse : Int) (f : List UInt8) (E : Nat) (Z : Nat → List Nat) (w' : World) : Prop := ∃ l, BadF l E Z ∧ DiskOf w' d F N (upd M f l) free fuse ∧ Gr F F w w'
set_option maxHeartbeats 4000000 in
set_option maxRecDepth 100000 in
theorem half_any (w : World) (d : Nat) (F : Nat → Prop) (N : Nat) (M : List UInt8 → List Ext) (free fuse : Int) (h : DiskOf w d F N M free fuse) (f : ByteArray) (hf : f.size ≤ maxLen) (E : Nat) (hE1 : 1 ≤ E) (hE2 : E ≤ 1000) (Z : Nat → List Nat) (hb : BadF (M f.data.toList) E Z)
    (ia : Option Addr) (il ic : Nat) (xs : List Int) (hX : ∀ wr, Gr F F w wr → Ils wr ia il xs) :
    Calls Tryd.prog 8 #[.pointer (some ⟨d, 0, none⟩), .string f, .slice ia il ic] w fun e w' => e = .returned (.tuple #[]) ∧ HalfPost w d F N M free fuse f.data.toList E Z w' := by
  have hil := (hX w (Gr.refl _ _)).2.1
  unfold maxLen at hil
  have HXL := hidn (hX w (Gr.refl _ _)).1
  have HX := hidn hX
  have HLN : Hid (E = (M f.data.toList).length) := hidn hb.1.symm
  have HD := hidn h
  have HI0 : Hid (HalfPost w d F N M free fuse f.data.toList E Z w) := hidn ⟨_, hb, by rw [upd_self M _ _ rfl]; exact h, Gr.refl _ _⟩
  have hEu : IntKind.u64.wrap (E : Int) = (E : Int) := by rw [IntKind.wrap_u64]; omega
  have hE0 : ¬ ((E : Int) = 0) := by omega
  have hE0' : ¬ (E = 0) := by omega
  have hE0b : ((E : Int) == 0) = false := beq_eq_false_iff_ne.2 hE0
  clear hX hb h
  go_enter Tryd.func8, Tryd.ntmps8
  go_wp2_with fail
  refine (extents_disk _ d F N M free fuse HD.out f hf E HLN).mono ?_
  rintro e w1 ⟨rfl, rfl⟩
  go_wp2_with fail
  go_loopw [14] (fun iv wr => ∃ i : Nat, i ≤ il ∧ iv = .int .i64 (i : Int) ∧ Hid (HalfPost w1 d F N M free fuse f.data.toList E Z wr)) (fun iv _ => il - (intOf iv).toNat)
  case atStart => exact ⟨0, Nat.zero_le _, rfl, HI0⟩
  case round =>
    obtain ⟨i, hi, rfl, hI⟩ := hrel
    by_cases hlt : i < il
    · have hlt2 : (i : Int) < (il : Int) := by omega
      obtain ⟨x, hx⟩ : ∃ x, xs[i]? = some x := ⟨_, List.getElem?_eq_getElem (by rw [HXL.out]; exact hlt)⟩
      obtain ⟨l, k1, k2, k3⟩ := hI.out
      obtain ⟨xb, xo, rfl, cx⟩ := (HX.out _ k3).at hx
      clear hx
      by_cases hi40 : (40 : Int) ≤ (i : Int)
      · clear k1 k2 k3
        go_wp2_with fail
        go_end0
        exact ⟨rfl, hI.out⟩
      · obtain ⟨u, hu, hub⟩ := uwrapH x
        obtain ⟨G, hG⟩ : ∃ G, G = u % E := ⟨_, rfl⟩
        have hGE : G < E := by rw [hG]; exact Nat.mod_lt _ (by omega)
        have hGm : (u : Int).tmod (E : Int) = (G : Int) := by rw [Int.tmod_eq_emod_of_nonneg (by omega), hG]; push_cast; rfl
        have hGw : IntKind.u64.wrap (G : Int) = (G : Int) := by rw [IntKind.wrap_u64]; omega
        have hGi : IntKind.i64.wrap (G : Int) = (G : Int) := by rw [IntKind.wrap_i64]; omega
        have hGW : wrap64 (G : Int) = (G : Int) := by unfold wrap64; omega
        obtain ⟨p, hp, hp128⟩ := shr_modH x
        obtain ⟨q, hq, hq256⟩ : ∃ q : Nat, x / 65536 % 256 = (q : Int) ∧ q < 256 := ⟨(x / 65536 % 256).toNat, by omega, by omega⟩
        obtain ⟨mk, hmk⟩ : ∃ mk, mk = q ||| 1 := ⟨_, rfl⟩
        have hor : bits .or .u8 (q : Int) 1 = (mk : Int) := by rw [hmk]; exact bits_or_u .u8 rfl q 1 hq256 (by decide)
        have HMK : Hid (mk < 256) := hidn (by
          rw [hmk]
          exact Nat.or_lt_two_pow (n := 8) hq256 (by decide))
        obtain ⟨y, hy⟩ : ∃ y, l[G]? = some y := ⟨_, List.getElem?_eq_getElem (by rw [k1.1]; exact hGE)⟩
        have HY := hidn hy
        have K1 := hidn k1
        have K2 := hidn k2
        have K3 := hidn k3
        clear hG hub hmk hy k1 k2 k3 hI
        go_wp2_with fail
        have hup : upd M f.data.toList l f.data.toList = l := upd_same _ _ _
        refine (rot_some _ d F N (upd M f.data.toList l) free fuse K2.out f hf G E (G * 385) (hidn (by rw [hup]; exact K1.out.1.symm)) hGE rfl p mk hp128 HMK.out y (hidn (by rw [hup]; exact HY.out))).mono ?_
        rintro e w5 ⟨rfl, hD5, hG5⟩
        rw [hup, upd_upd] at hD5
        have HI5 : Hid (HalfPost w1 d F N M free fuse f.data.toList E Z w5) := hidn ⟨_, K1.out.rot G y HY.out p mk hp128 HMK.out, hD5, K3.out.trans hG5⟩
        clear hD5 hG5 hup
        go_wp2_with fail
        exact ⟨⟨i + 1, by omega, by go_num, HI5⟩, by simp [intOf]; omega⟩
    · have hlt2 : ¬ (i : Int) < (il : Int) := by omega
      go_wp2_with fail
      go_end0
      exact ⟨rfl, hI.out⟩
end Go.Proofs.YthhnpajaacfapaaDoor

namespace Go.Proofs.YthhnpajaacfapaaDoor
open Go.RowKit Go.Maps
set_option linter.unusedVariables false
/-- What opens is as it was. -/
def ToldAt (M Mc : List UInt8 → List Ext) (s : List UInt8) (k : Nat) : Prop := ∀ i x y, i < k → (M s)[i]? = some x → (Mc s)[i]? = some y → openB x.rd (nums ⟨s.toArray⟩) (i : Int) ≠ none → x.rd = y.rd
def ToldPost (w : World) (M Mc : List UInt8 → List Ext) (e : Ending) (w' : World) : Prop := ∃ b : Bool, e = .returned (.bool b) ∧ (b = true → ∀ s, ToldAt M Mc s (M s).length) ∧ Below w.heap.size w w'
set_option maxHeartbeats 4000000 in
set_option maxRecDepth 100000 in
theorem told_any (w : World) (d dc : Nat) (F Fc : Nat → Prop) (N Nc : Nat) (M Mc : List UInt8 → List Ext) (free fuse freec fusec : Int) (h : DiskOf w d F N M free fuse) (hc : DiskOf w dc Fc Nc Mc freec fusec) (hN : N ≤ 1000000) (hlen : ∀ s, (Mc s).length = (M s).length) (hle : ∀ s, (M s).length ≤ 1000000) :
    Calls Tryd.prog 9 #[.pointer (some ⟨d, 0, none⟩), .pointer (some ⟨dc, 0, none⟩)] w (ToldPost w M Mc) := by
  have HD := hidn h
  have HC := hidn hc
  have HLE := hidn hlen
  have HLL := hidn hle
  clear h hc hlen hle
  go_enter Tryd.func9, Tryd.ntmps9
  go_wp2_with fail
  refine (list_disk _ d F N M free fuse HD.out hN).mono ?_
  rintro e w1 ⟨v, ts, rfl, hnm, hrow, b1⟩
  obtain ⟨sa, sc, hsv⟩ : ∃ sa sc, v = .slice sa ts.length sc := by
    rcases hrow.2 with ⟨h1, h2⟩ | ⟨g, cap, cur, h1, _⟩
    · exact ⟨none, 0, by rw [h1, h2]⟩
    · exact ⟨_, _, h1⟩
  subst hsv
  obtain ⟨L, hL⟩ : ∃ L, L = ts.length := ⟨_, rfl⟩
  have hLm : L ≤ maxLen := by
    rcases hrow.2 with ⟨h1, h2⟩ | ⟨g, cap, cur, h1, _, _, h3, h4, _⟩
    · omega
    · omega
  have HROW := hidn hrow
  rw [← hL]
  rw [← hL] at HROW
  have HL := hidn hL
  have HD1 := hidn (HD.out.below b1)
  have HC1 := hidn (HC.out.below b1)
  have HNM := hidn hnm
  have HB1 := hidn b1
  unfold maxLen at hLm
  clear hrow hL HD HC hnm b1
  go_wp2_with fail
  go_loopw [18] (fun kv wr => ∃ j : Nat, j ≤ L ∧ kv = .int .i64 (j : Int) ∧ Hid (∀ s ∈ ts.take j, ToldAt M Mc s (M s).length) ∧ Hid (Below w1.heap.size w1 wr)) (fun kv _ => L - (intOf kv).toNat)
  case atStart => exact ⟨0, Nat.zero_le _, rfl, hidn (fun s hs => by simp at hs), hidn (Below.refl _ _)⟩
  case round =>
    obtain ⟨j, hj, rfl, hA, hb1⟩ := hrel
    by_cases hlt : j < L
    · have hlt2 : (j : Int) < (L : Int) := by omega
      obtain ⟨g, rfl⟩ : ∃ g, sa = some ⟨g, 0, none⟩ := by
        rcases HROW.out.2 with ⟨h1, h2⟩ | ⟨g, cap, cur, h1, _⟩
        · omega
        · cases h1; exact ⟨g, rfl⟩
      obtain ⟨s, hs⟩ : ∃ s, ts[j]? = some s := ⟨_, List.getElem?_eq_getElem (by rw [← HL.out]; exact hlt)⟩
      have hsm := HNM.out.2.2.2 s (List.mem_of_getElem? hs)
      obtain ⟨sb, rfl⟩ : ∃ sb : ByteArray, s = sb.data.toList := ⟨⟨s.toArray⟩, rfl⟩
      have hsz : sb.size ≤ maxLen := by rw [Array.length_toList] at hsm; exact hsm
      have cN : wr.cell? ⟨g, j, none⟩ = some (.string sb) := by
        have := (own_below HROW.out hb1.out).cells (g := g) rfl j (.string sb) (by rw [List.getElem?_map, hs]; simp [encStr])
        simpa [add_none] using this
      obtain ⟨n, hn⟩ : ∃ n, n = (M sb.data.toList).length := ⟨_, rfl⟩
      have hn6 : n ≤ 1000000 := by rw [hn]; exact HLL.out _
      have HN := hidn hn
      have HNC : Hid (n = (Mc sb.data.toList).length) := hidn (by rw [HLE.out]; exact hn)
      have HSJ := hidn hs
      have HSZ := hidn hsz
      clear hn hs hsm hsz
      go_wp2_with fail
      refine (extents_disk _ d F N M free fuse (HD1.out.below hb1.out) sb HSZ.out n HN).mono ?_
      rintro e w2 ⟨rfl, rfl⟩
      go_wp2_with fail
      clear cN
      generalize w2 = wo at *
      go_loopw [25] (fun kv wr => ∃ k : Nat, k ≤ n ∧ kv = .int .i64 (k : Int) ∧ Hid (ToldAt M Mc sb.data.toList k) ∧ Hid (Below w1.heap.size w1 wr)) (fun kv _ => n - (intOf kv).toNat)
      case atStart => exact ⟨0, Nat.zero_le _, rfl, hidn (fun i x y hi => by omega), hb1⟩
      case round =>
        obtain ⟨k, hk, rfl, hK, hb3⟩ := hrel
        by_cases hkl : k < n
        · have hkl2 : (k : Int) < (n : Int) := by omega
          obtain ⟨x, hx⟩ : ∃ x, (M sb.data.toList)[k]? = some x := ⟨_, List.getElem?_eq_getElem (by rw [← HN.out]; exact hkl)⟩
          obtain ⟨y, hy⟩ : ∃ y, (Mc sb.data.toList)[k]? = some y := ⟨_, List.getElem?_eq_getElem (by rw [← HNC.out]; exact hkl)⟩
          have HX := hidn hx
          have HY := hidn hy
          clear hx hy
          go_wp2_with fail
          refine (diskRead_some _ d F N M free fuse (HD1.out.below hb3.out) sb HSZ.out k n (k * 385) HN hkl rfl x.rd x HX (hidn rfl)).mono ?_
          rintro e w4 ⟨b4, rfl, _, hB4, hb4⟩
          have HB4 := hidn hB4
          have HBB4 := hidn (hb3.out.trans (hb4.mono hb3.out.size))
          clear hB4 hb4
          go_wp2_with fail
          refine (diskRead_some _ dc Fc Nc Mc freec fusec (HC1.out.below HBB4.out) sb HSZ.out k n (k * 385) HNC hkl rfl y.rd y HY (hidn rfl)).mono ?_
          rintro e w5 ⟨b5, rfl, _, hB5, hb5⟩
          have HB5 := hidn hB5
          have HB45 := hidn (HB4.out.below hb5)
          have HBB5 := hidn (HBB4.out.trans (hb5.mono HBB4.out.size))
          clear hB5 hb5 HB4
          go_wp2_with fail
          refine (refOpen_any sb (k : Int) _ _ _ _ _ HB45.out (Nat.le_refl _) HSZ.out).mono ?_
          rintro e w6 ⟨hb6, hO⟩
          have HB46 := hidn (HB45.out.below hb6)
          have HB56 := hidn (HB5.out.below hb6)
          have HBB6 := hidn (HBB5.out.trans (hb6.mono HBB5.out.size))
          clear hb6 HB45 HB5
          cases hop : openB x.rd (nums sb) (k : Int) with
          | none =>
            rw [hop] at hO
            have hO' : e = .returned (.tuple #[.slice none 0 0, .int .i64 0, .int .i64 40]) := hO
            subst hO'
            have HK' : Hid (ToldAt M Mc sb.data.toList (k + 1)) := hidn (fun i x' y' hi hx' hy' ho => by
              by_cases hik : i = k
              · subst hik
                rw [HX.out] at hx'
                cases hx'
                exact absurd hop ho
              · exact hK.out i x' y' (by omega) hx' hy' ho)
            clear hop hO
            go_wp2_with fail
            exact ⟨⟨k + 1, by omega, by go_num, HK', HBB6⟩, by simp [intOf]; omega⟩
          | some pn =>
            obtain ⟨pp, pg⟩ := pn
            rw [hop] at hO
            obtain ⟨v, rfl, hv⟩ := hO
            clear hv hop
            go_wp2_with fail
            refine (equal_any _ _ _ _ _ _ _ _ _ HB46.out HB56.out).mono ?_
            rintro e w7 ⟨rfl, rfl⟩
            by_cases he : x.rd = y.rd
            · have hde : decide (x.rd = y.rd) = true := decide_eq_true he
              have HK' : Hid (ToldAt M Mc sb.data.toList (k + 1)) := hidn (fun i x' y' hi hx' hy' ho => by
                by_cases hik : i = k
                · subst hik
                  rw [HX.out] at hx'
                  rw [HY.out] at hy'
                  cases hx'
                  cases hy'
                  exact he
                · exact hK.out i x' y' (by omega) hx' hy' ho)
              rw [hde]
              clear he hde
              go_wp2_with fail
              exact ⟨⟨k + 1, by omega, by go_num, HK', HBB6⟩, by simp [intOf]; omega⟩
            · have hde : decide (x.rd = y.rd) = false := decide_eq_false he
              have HBF := hidn (HB1.out.trans (HBB6.out.mono HB1.out.size))
              rw [hde]
              clear he hde
              go_wp2_with fail
              go_ret
              exact ⟨false, rfl, fun h => Bool.noConfusion h, HBF.out⟩
        · have hkl2 : ¬ (k : Int) < (n : Int) := by omega
          have HA' : Hid (∀ s ∈ ts.take (j + 1), ToldAt M Mc s (M s).length) := hidn (fun s hs => by
            obtain ⟨hj', he⟩ := List.getElem?_eq_some_iff.1 HSJ.out
            rw [List.take_succ_eq_append_getElem hj', List.mem_append, List.mem_singleton, he] at hs
            rcases hs with hs | rfl
            · exact hA.out s hs
            · have e1 : k = (M sb.data.toList).length := by have := HN.out; omega
              rw [← e1]
              exact hK.out)
          go_wp2_with fail
          exact ⟨⟨j + 1, by omega, by go_num, HA', hb3⟩, by simp [intOf]; omega⟩
    · have hlt2 : ¬ (j : Int) < (L : Int) := by omega
      have HF : Hid (∀ s, ToldAt M Mc s (M s).length) := hidn (fun s => by
        by_cases hs : s ∈ ts
        · exact hA.out s (by rw [List.take_of_length_le (by have := HL.out; omega)]; exact hs)
        · have h0 : M s = [] := Classical.byContradiction (fun h => hs ((HNM.out.2.2.1 s).2 h))
          intro i x y hi
          rw [h0] at hi
          simp at hi)
      have HBF := hidn (HB1.out.trans (hb1.out.mono HB1.out.size))
      go_wp2_with fail
      go_ret
      exact ⟨true, rfl, fun _ => HF.out, HBF.out⟩
end Go.Proofs.YthhnpajaacfapaaDoor
