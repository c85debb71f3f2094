/- Pairs: dryrotplain's Told. -/
import Derived.Test.YtoopdmfijbbfdaaDoorPairTold
namespace Go.Proofs.YtoopdmfijbbfdaaDoor
open Go.RowKit Go.Maps
set_option linter.unusedVariables false
/-- What opens is as it was. -/
def ToldAt (M Mc : List UInt8 → List Ext) (s : List UInt8) (k : Nat) : Prop := ∀ i x y, i < k → (M s)[i]? = some x → (Mc s)[i]? = some y → openB x.rd (nums ⟨s.toArray⟩) (i : Int) ≠ none → x.rd = y.rd
def ToldPost (w : World) (M Mc : List UInt8 → List Ext) (e : Ending) (w' : World) : Prop := ∃ b : Bool, e = .returned (.bool b) ∧ (b = true → ∀ s, ToldAt M Mc s (M s).length) ∧ Below w.heap.size w w'
set_option maxHeartbeats 4000000 in
set_option maxRecDepth 100000 in
theorem told_any (w : World) (d dc : Nat) (F Fc : Nat → Prop) (N Nc : Nat) (M Mc : List UInt8 → List Ext) (free fuse freec fusec : Int) (h : DiskOf w d F N M free fuse) (hc : DiskOf w dc Fc Nc Mc freec fusec) (hN : N ≤ 1000000) (hlen : ∀ s, (Mc s).length = (M s).length) (hle : ∀ s, (M s).length ≤ 1000000) :
    Calls Tryd.prog 24 #[.pointer (some ⟨d, 0, none⟩), .pointer (some ⟨dc, 0, none⟩)] w (ToldPost w M Mc) := by
  have HD := hidn h
  have HC := hidn hc
  have HLE := hidn hlen
  have HLL := hidn hle
  clear h hc hlen hle
  go_enter Tryd.func24, Tryd.ntmps24
  go_wp2_with fail
  refine (list_disk _ d F N M free fuse HD.out hN).mono ?_
  rintro e w1 ⟨v, ts, rfl, hnm, hrow, b1⟩
  obtain ⟨sa, sc, hsv⟩ : ∃ sa sc, v = .slice sa ts.length sc := by
    rcases hrow.2 with ⟨h1, h2⟩ | ⟨g, cap, cur, h1, _⟩
    · exact ⟨none, 0, by rw [h1, h2]⟩
    · exact ⟨_, _, h1⟩
  subst hsv
  obtain ⟨L, hL⟩ : ∃ L, L = ts.length := ⟨_, rfl⟩
  have hLm : L ≤ maxLen := by
    rcases hrow.2 with ⟨h1, h2⟩ | ⟨g, cap, cur, h1, _, _, h3, h4, _⟩
    · omega
    · omega
  have HROW := hidn hrow
  rw [← hL]
  rw [← hL] at HROW
  have HL := hidn hL
  have HD1 := hidn (HD.out.below b1)
  have HC1 := hidn (HC.out.below b1)
  have HNM := hidn hnm
  have HB1 := hidn b1
  unfold maxLen at hLm
  clear hrow hL HD HC hnm b1
  go_wp2_with fail
  go_loopw [18] (fun kv wr => ∃ j : Nat, j ≤ L ∧ kv = .int .i64 (j : Int) ∧ Hid (∀ s ∈ ts.take j, ToldAt M Mc s (M s).length) ∧ Hid (Below w1.heap.size w1 wr)) (fun kv _ => L - (intOf kv).toNat)
  case atStart => exact ⟨0, Nat.zero_le _, rfl, hidn (fun s hs => by simp at hs), hidn (Below.refl _ _)⟩
  case round =>
    obtain ⟨j, hj, rfl, hA, hb1⟩ := hrel
    by_cases hlt : j < L
    · have hlt2 : (j : Int) < (L : Int) := by omega
      obtain ⟨g, rfl⟩ : ∃ g, sa = some ⟨g, 0, none⟩ := by
        rcases HROW.out.2 with ⟨h1, h2⟩ | ⟨g, cap, cur, h1, _⟩
        · omega
        · cases h1; exact ⟨g, rfl⟩
      obtain ⟨s, hs⟩ : ∃ s, ts[j]? = some s := ⟨_, List.getElem?_eq_getElem (by rw [← HL.out]; exact hlt)⟩
      have hsm := HNM.out.2.2.2 s (List.mem_of_getElem? hs)
      obtain ⟨sb, rfl⟩ : ∃ sb : ByteArray, s = sb.data.toList := ⟨⟨s.toArray⟩, rfl⟩
      have hsz : sb.size ≤ maxLen := by rw [Array.length_toList] at hsm; exact hsm
      have cN : wr.cell? ⟨g, j, none⟩ = some (.string sb) := by
        have := (own_below HROW.out hb1.out).cells (g := g) rfl j (.string sb) (by rw [List.getElem?_map, hs]; simp [encStr])
        simpa [add_none] using this
      obtain ⟨n, hn⟩ : ∃ n, n = (M sb.data.toList).length := ⟨_, rfl⟩
      have hn6 : n ≤ 1000000 := by rw [hn]; exact HLL.out _
      have HN := hidn hn
      have HNC : Hid (n = (Mc sb.data.toList).length) := hidn (by rw [HLE.out]; exact hn)
      have HSJ := hidn hs
      have HSZ := hidn hsz
      clear hn hs hsm hsz
      go_wp2_with fail
      refine (extents_disk _ d F N M free fuse (HD1.out.below hb1.out) sb HSZ.out n HN).mono ?_
      rintro e w2 ⟨rfl, rfl⟩
      go_wp2_with fail
      clear cN
      generalize w2 = wo at *
      go_loopw [25] (fun kv wr => ∃ k : Nat, k ≤ n ∧ kv = .int .i64 (k : Int) ∧ Hid (ToldAt M Mc sb.data.toList k) ∧ Hid (Below w1.heap.size w1 wr)) (fun kv _ => n - (intOf kv).toNat)
      case atStart => exact ⟨0, Nat.zero_le _, rfl, hidn (fun i x y hi => by omega), hb1⟩
      case round =>
        obtain ⟨k, hk, rfl, hK, hb3⟩ := hrel
        by_cases hkl : k < n
        · have hkl2 : (k : Int) < (n : Int) := by omega
          obtain ⟨x, hx⟩ : ∃ x, (M sb.data.toList)[k]? = some x := ⟨_, List.getElem?_eq_getElem (by rw [← HN.out]; exact hkl)⟩
          obtain ⟨y, hy⟩ : ∃ y, (Mc sb.data.toList)[k]? = some y := ⟨_, List.getElem?_eq_getElem (by rw [← HNC.out]; exact hkl)⟩
          have HX := hidn hx
          have HY := hidn hy
          clear hx hy
          go_wp2_with fail
          refine (diskRead_some _ d F N M free fuse (HD1.out.below hb3.out) sb HSZ.out k n (k * 385) HN hkl rfl x.rd x HX (hidn rfl)).mono ?_
          rintro e w4 ⟨b4, rfl, _, hB4, hb4⟩
          have HB4 := hidn hB4
          have HBB4 := hidn (hb3.out.trans (hb4.mono hb3.out.size))
          clear hB4 hb4
          go_wp2_with fail
          refine (diskRead_some _ dc Fc Nc Mc freec fusec (HC1.out.below HBB4.out) sb HSZ.out k n (k * 385) HNC hkl rfl y.rd y HY (hidn rfl)).mono ?_
          rintro e w5 ⟨b5, rfl, _, hB5, hb5⟩
          have HB5 := hidn hB5
          have HB45 := hidn (HB4.out.below hb5)
          have HBB5 := hidn (HBB4.out.trans (hb5.mono HBB4.out.size))
          clear hB5 hb5 HB4
          go_wp2_with fail
          refine (refOpen_any sb (k : Int) _ _ _ _ _ HB45.out (Nat.le_refl _) HSZ.out).mono ?_
          rintro e w6 ⟨hb6, hO⟩
          have HB46 := hidn (HB45.out.below hb6)
          have HB56 := hidn (HB5.out.below hb6)
          have HBB6 := hidn (HBB5.out.trans (hb6.mono HBB5.out.size))
          clear hb6 HB45 HB5
          cases hop : openB x.rd (nums sb) (k : Int) with
          | none =>
            rw [hop] at hO
            have hO' : e = .returned (.tuple #[.slice none 0 0, .int .i64 0, .int .i64 40]) := hO
            subst hO'
            have HK' : Hid (ToldAt M Mc sb.data.toList (k + 1)) := hidn (fun i x' y' hi hx' hy' ho => by
              by_cases hik : i = k
              · subst hik
                rw [HX.out] at hx'
                cases hx'
                exact absurd hop ho
              · exact hK.out i x' y' (by omega) hx' hy' ho)
            clear hop hO
            go_wp2_with fail
            exact ⟨⟨k + 1, by omega, by go_num, HK', HBB6⟩, by simp [intOf]; omega⟩
          | some pn =>
            obtain ⟨pp, pg⟩ := pn
            rw [hop] at hO
            obtain ⟨v, rfl, hv⟩ := hO
            clear hv hop
            go_wp2_with fail
            refine (equal_any _ _ _ _ _ _ _ _ _ HB46.out HB56.out).mono ?_
            rintro e w7 ⟨rfl, rfl⟩
            by_cases he : x.rd = y.rd
            · have hde : decide (x.rd = y.rd) = true := decide_eq_true he
              have HK' : Hid (ToldAt M Mc sb.data.toList (k + 1)) := hidn (fun i x' y' hi hx' hy' ho => by
                by_cases hik : i = k
                · subst hik
                  rw [HX.out] at hx'
                  rw [HY.out] at hy'
                  cases hx'
                  cases hy'
                  exact he
                · exact hK.out i x' y' (by omega) hx' hy' ho)
              rw [hde]
              clear he hde
              go_wp2_with fail
              exact ⟨⟨k + 1, by omega, by go_num, HK', HBB6⟩, by simp [intOf]; omega⟩
            · have hde : decide (x.rd = y.rd) = false := decide_eq_false he
              have HBF := hidn (HB1.out.trans (HBB6.out.mono HB1.out.size))
              rw [hde]
              clear he hde
              go_wp2_with fail
              go_ret
              exact ⟨false, rfl, fun h => Bool.noConfusion h, HBF.out⟩
        · have hkl2 : ¬ (k : Int) < (n : Int) := by omega
          have HA' : Hid (∀ s ∈ ts.take (j + 1), ToldAt M Mc s (M s).length) := hidn (fun s hs => by
            obtain ⟨hj', he⟩ := List.getElem?_eq_some_iff.1 HSJ.out
            rw [List.take_succ_eq_append_getElem hj', List.mem_append, List.mem_singleton, he] at hs
            rcases hs with hs | rfl
            · exact hA.out s hs
            · have e1 : k = (M sb.data.toList).length := by have := HN.out; omega
              rw [← e1]
              exact hK.out)
          go_wp2_with fail
          exact ⟨⟨j + 1, by omega, by go_num, HA', hb3⟩, by simp [intOf]; omega⟩
    · have hlt2 : ¬ (j : Int) < (L : Int) := by omega
      have HF : Hid (∀ s, ToldAt M Mc s (M s).length) := hidn (fun s => by
        by_cases hs : s ∈ ts
        · exact hA.out s (by rw [List.take_of_length_le (by have := HL.out; omega)]; exact hs)
        · have h0 : M s = [] := Classical.byContradiction (fun h => hs ((HNM.out.2.2.1 s).2 h))
          intro i x y hi
          rw [h0] at hi
          simp at hi)
      have HBF := hidn (HB1.out.trans (hb1.out.mono HB1.out.size))
      go_wp2_with fail
      go_ret
      exact ⟨true, rfl, fun _ => HF.out, HBF.out⟩
end Go.Proofs.YtoopdmfijbbfdaaDoor
