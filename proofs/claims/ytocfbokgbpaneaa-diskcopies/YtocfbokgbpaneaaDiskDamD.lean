/- The disk: the extents that are damaged. -/
import Derived.Test.YtocfbokgbpaneaaDiskList
import Derived.Test.YtocfbokgbpaneaaDiskDam
import Derived.Test.YtocfbokgbpaneaaMd
import Derived.Test.YtocfbokgbpaneaaMe
namespace Go.Proofs.Ytocfbokgbpaneaa
open Go.RowKit Go.Maps
set_option linter.unusedVariables false
def Ext.bad (x : Ext) : Bool := !decide (x.dur = x.syn) && !decide (x.dur = x.wri)
def badAt (l : List Ext) (k : Nat) : List Nat := (List.range k).filter fun i => ((l[i]?).map Ext.bad).getD false
def spotsIn (M : List UInt8 → List Ext) (s : List UInt8) (k : Nat) : List (List UInt8 × Nat) := (badAt (M s) k).map fun i => (s, i)
/-- The damaged extents of some files. -/
def spotsOf (M : List UInt8 → List Ext) (ts : List (List UInt8)) : List (List UInt8 × Nat) := ts.flatMap fun s => spotsIn M s (M s).length
def spv (l : List (List UInt8 × Nat)) : List Value := l.flatMap fun p => [encStr p.1, .int .i64 (p.2 : Int)]
theorem spv_append (a b : List (List UInt8 × Nat)) : spv (a ++ b) = spv a ++ spv b := by simp [spv]
theorem badAt_succ (l : List Ext) (k : Nat) (x : Ext) (h : l[k]? = some x) : badAt l (k + 1) = badAt l k ++ (if x.bad then [k] else []) := by
  unfold badAt
  rw [List.range_succ, List.filter_append]
  congr 1
  simp only [List.filter_cons, List.filter_nil, h, Option.map_some, Option.getD_some]
theorem badAt_length (l : List Ext) (k : Nat) : (badAt l k).length ≤ k := by
  have := List.length_filter_le (fun i => ((l[i]?).map Ext.bad).getD false) (List.range k)
  rw [List.length_range] at this
  exact this
theorem spotsIn_length (M : List UInt8 → List Ext) (s : List UInt8) (k : Nat) : (spotsIn M s k).length ≤ k := by
  unfold spotsIn
  rw [List.length_map]
  exact badAt_length _ _
theorem spotsIn_zero (M : List UInt8 → List Ext) (s : List UInt8) : spotsIn M s 0 = [] := rfl
theorem spotsOf_succ (M : List UInt8 → List Ext) (ts : List (List UInt8)) (j : Nat) (s : List UInt8) (h : ts[j]? = some s) : spotsOf M (ts.take (j + 1)) = spotsOf M (ts.take j) ++ spotsIn M s (M s).length := by
  unfold spotsOf
  rw [List.take_add_one, h]
  simp
theorem spotsOf_length (M : List UInt8 → List Ext) (ts : List (List UInt8)) : (spotsOf M ts).length ≤ (ts.map fun s => (M s).length).sum := by
  induction ts with
  | nil => exact Nat.le_refl _
  | cons s t ih =>
    have e : spotsOf M (s :: t) = spotsIn M s (M s).length ++ spotsOf M t := rfl
    have h := spotsIn_length M s (M s).length
    rw [e, List.length_append, List.map_cons, List.sum_cons]
    omega
theorem spots_none {M : List UInt8 → List Ext} (h : ∀ s, ∀ x ∈ M s, x.bad = false) (ts : List (List UInt8)) : spotsOf M ts = [] := by
  unfold spotsOf
  rw [List.flatMap_eq_nil_iff]
  intro s _
  unfold spotsIn badAt
  rw [List.map_eq_nil_iff, List.filter_eq_nil_iff]
  intro i _ hb
  cases hx : (M s)[i]? with
  | none => rw [hx] at hb; simp at hb
  | some x =>
    rw [hx] at hb
    simp only [Option.map_some, Option.getD_some] at hb
    rw [h s x (List.mem_of_getElem? hx)] at hb
    cases hb
theorem spInfo : ∃ i0 z, Try.prog.info? 73 = some i0 ∧ i0.zero = some z ∧ i0.size = 2 ∧ i0.bytes = 24 ∧ z.cells.size = 2 := by
  have h : (Try.prog.info? 73).map (fun i => (i.zero, i.size, i.bytes)) = some (some (.agg #[.string ⟨#[]⟩, .int .i64 0]), 2, 24) := by kernel_rfl
  cases hi : Try.prog.info? 73 with
  | none => rw [hi] at h; cases h
  | some i0 =>
    rw [hi] at h
    simp only [Option.map_some, Option.some.injEq, Prod.mk.injEq] at h
    exact ⟨i0, _, rfl, h.1, h.2.1, h.2.2, rfl⟩
theorem isDamaged_any {w : World} {d N : Nat} {F : Nat → Prop} {M : List UInt8 → List Ext} {free fuse : Int} {bm : Nat} {D : DataW Unit} {G C : List UInt8 → Nat} (h : DiskIs w d F N M free fuse bm D G C) (s : List UInt8) (i : Nat) (x : Ext) (hx : (M s)[i]? = some x) (o : Nat) (ho : i * 385 = o) :
    Calls Try.prog 52 #[.pointer (some ⟨G s, o, none⟩)] w fun e w' => e = .returned (.bool x.bad) ∧ Below w.heap.size w w' := by
  obtain ⟨p1, p2, p3, p4, p5, p6⟩ := h.parts s i x hx o ho
  by_cases he : x.dur = x.syn
  · have hb : x.bad = false := by unfold Ext.bad; rw [decide_eq_true he]; rfl
    rw [hb]
    exact isDamaged_same w (G s) o _ _ _ p6.1.1 p6.2.1.1 p6.2.2.1 p1 p2 p3 he
  · have hb : x.bad = !decide (x.dur = x.wri) := by unfold Ext.bad; rw [decide_eq_false he]; rfl
    rw [hb]
    exact isDamaged_other w (G s) o _ _ _ p6.1.1 p6.2.1.1 p6.2.2.1 p1 p2 p3 he

def DamPost (w : World) (M : List UInt8 → List Ext) (v : Value) (w' : World) : Prop := ∃ ts, Names M ts ∧ w'.ownsRow w.heap.size 73 2 v (spotsOf M ts).length (spv (spotsOf M ts))
set_option maxHeartbeats 4000000 in
set_option maxRecDepth 100000 in
theorem damaged_disk (w : World) (d : Nat) (F : Nat → Prop) (N : Nat) (M : List UInt8 → List Ext) (free fuse : Int) (h : DiskOf w d F N M free fuse) (hN : N ≤ 1000000) (hT : ∀ ts : List (List UInt8), ts.Nodup → (ts.map fun s => (M s).length).sum ≤ 1000000) :
    Calls Try.prog 33 #[.pointer (some ⟨d, 0, none⟩)] w fun e w' => ∃ v, e = .returned v ∧ DamPost w M v w' ∧ Below w.heap.size w w' := by
  obtain ⟨bm, D, G, C, hI⟩ := h.is
  obtain ⟨i0, z, hi, hz, hzs, hby, hzc⟩ := spInfo
  go_enter Try.func33, Try.ntmps33
  go_wp2_with fail
  refine (list_disk _ d F N M free fuse h hN).mono ?_
  rintro e w1 ⟨v, ts, rfl, hnm, hrow, b1⟩
  obtain ⟨sa, sc, hsv⟩ : ∃ sa sc, v = .slice sa ts.length sc := by
    rcases hrow.2 with ⟨h1, h2⟩ | ⟨g, cap, cur, h1, _⟩
    · exact ⟨none, 0, by rw [h1, h2]⟩
    · exact ⟨_, _, h1⟩
  subst hsv
  have hTs := hT ts hnm.1
  have HI1w := hidn (hI.below b1)
  obtain ⟨L, hL⟩ : ∃ L, L = ts.length := ⟨_, rfl⟩
  have hLm : L ≤ maxLen := by
    rcases hrow.2 with ⟨h1, h2⟩ | ⟨g, cap, cur, h1, _, _, h3, h4, _⟩
    · omega
    · omega
  have HROW := hidn hrow
  rw [← hL]
  rw [← hL] at HROW
  have HL := hidn hL
  unfold maxLen at hLm
  clear hI hT hrow hL
  go_wp2_with fail
  go_loopw [3, 10] (fun sv kv wr => ∃ (j : Nat) (v : Value), j ≤ L ∧ sv = v ∧ kv = .int .i64 (j : Int) ∧ wr.ownsRow w1.heap.size 73 2 v (spotsOf M (ts.take j)).length (spv (spotsOf M (ts.take j))) ∧ Below w1.heap.size w1 wr) (fun _ kv _ => L - (intOf kv).toNat)
  case atStart => exact ⟨0, _, Nat.zero_le _, rfl, rfl, World.ownsRow_nil _ _ _ _, Below.refl _ _⟩
  case round =>
    obtain ⟨j, v, hj, rfl, rfl, hown, hb1⟩ := hrel
    by_cases hlt : j < L
    · have hlt2 : (j : Int) < (L : Int) := by omega
      obtain ⟨g, rfl⟩ : ∃ g, sa = some ⟨g, 0, none⟩ := by
        rcases HROW.out.2 with ⟨h1, h2⟩ | ⟨g, cap, cur, h1, _⟩
        · omega
        · cases h1; exact ⟨g, rfl⟩
      obtain ⟨s, hs⟩ : ∃ s, ts[j]? = some s := ⟨_, List.getElem?_eq_getElem (by rw [← HL.out]; exact hlt)⟩
      have hsm := hnm.2.2.2 s (List.mem_of_getElem? hs)
      have hsne := (hnm.2.2.1 s).1 (List.mem_of_getElem? hs)
      obtain ⟨sb, rfl⟩ : ∃ sb : ByteArray, s = sb.data.toList := ⟨⟨s.toArray⟩, rfl⟩
      have cN : wr.cell? ⟨g, j, none⟩ = some (.string sb) := by
        have := (own_below HROW.out hb1).cells (g := g) rfl j (.string sb) (by rw [List.getElem?_map, hs]; simp [encStr])
        simpa [add_none] using this
      have hI := HI1w.out.below hb1
      have hlk := hI.look sb (by rw [Array.length_toList] at hsm; exact hsm) hsne
      have c0 := hI.c0
      have HLK := hidn (fun (wx : World) (hx : Below w1.heap.size w1 wx) => (HI1w.out.below hx).look sb (by rw [Array.length_toList] at hsm; exact hsm) hsne)
      obtain ⟨n, hn⟩ : ∃ n, n = (M sb.data.toList).length := ⟨_, rfl⟩
      have hnm2 := hI.len sb.data.toList
      rw [← hn] at hlk HLK hnm2
      have HN := hidn hn
      have hnx : Hid (spotsOf M (ts.take (j + 1)) = spotsOf M (ts.take j) ++ spotsIn M sb.data.toList n) := hidn (by rw [hn]; exact spotsOf_succ M ts j _ hs)
      have hlen1 : Hid ((spotsOf M (ts.take j)).length + n ≤ 1000000) := hidn (by
        have h1 := spotsOf_length M (ts.take j)
        have h2 : (ts.map fun s => (M s).length).sum = ((ts.take j).map fun s => (M s).length).sum + ((ts.drop j).map fun s => (M s).length).sum := by
          rw [← List.sum_append, ← List.map_append, List.take_append_drop]
        have h3 : ts.drop j = sb.data.toList :: ts.drop (j + 1) := by
          obtain ⟨hj', he⟩ := List.getElem?_eq_some_iff.1 hs
          rw [← he]
          exact List.drop_eq_getElem_cons hj'
        rw [h3, List.map_cons, List.sum_cons] at h2
        omega)
      clear hn hI hs hsm hsne
      go_wp2_with fail
      generalize wr = wo at *
      generalize u3 = sv0 at *
      clear hlk c0 cN
      unfold maxLen at hnm2
      go_loopw [3, 21] (fun sv kv wr => ∃ (k : Nat) (v : Value), k ≤ n ∧ sv = v ∧ kv = .int .i64 (k : Int) ∧ wr.ownsRow w1.heap.size 73 2 v (spotsOf M (ts.take j) ++ spotsIn M sb.data.toList k).length (spv (spotsOf M (ts.take j) ++ spotsIn M sb.data.toList k)) ∧ Below w1.heap.size w1 wr) (fun _ kv _ => n - (intOf kv).toNat)
      case atStart => exact ⟨0, _, Nat.zero_le _, rfl, rfl, by rw [spotsIn_zero, List.append_nil]; exact hown, hb1⟩
      case round =>
        obtain ⟨k, v, hk, rfl, rfl, hown2, hb3⟩ := hrel
        by_cases hkl : k < n
        · have hkl2 : (k : Int) < (n : Int) := by omega
          obtain ⟨x, hx⟩ : ∃ x, (M sb.data.toList)[k]? = some x := ⟨_, List.getElem?_eq_getElem (by rw [← HN.out]; exact hkl)⟩
          have hlk := HLK.out wr hb3
          have hI2 := HI1w.out.below hb3
          have c0 := hI2.c0
          have HD := hidn (isDamaged_any hI2 sb.data.toList k x hx (k * 385) rfl)
          have hnext : Hid (spotsIn M sb.data.toList (k + 1) = spotsIn M sb.data.toList k ++ (if x.bad then [(sb.data.toList, k)] else [])) := hidn (by
            unfold spotsIn
            rw [badAt_succ _ _ _ hx, List.map_append]
            congr 1
            cases x.bad <;> rfl)
          have hlen2 : Hid ((spotsOf M (ts.take j) ++ spotsIn M sb.data.toList k).length + 1 ≤ 1000000) := hidn (by
            have h1 := hlen1.out
            have h2 := spotsIn_length M sb.data.toList k
            rw [List.length_append]
            omega)
          have HX := hidn hx
          clear hI2 hx
          go_wp2_with fail
          refine HD.out.mono ?_
          rintro e w3 ⟨rfl, b3⟩
          have B1 := hb3.trans (b3.mono hb3.size)
          have own3 := own_below hown2 b3
          have hsz : w1.heap.size ≤ w3.heap.size := B1.size
          generalize x.bad = xb at *
          clear hown2 hlk c0
          cases xb with
          | false =>
            have HO : Hid (w3.ownsRow w1.heap.size 73 2 u3 (spotsOf M (ts.take j) ++ spotsIn M sb.data.toList (k + 1)).length (spv (spotsOf M (ts.take j) ++ spotsIn M sb.data.toList (k + 1)))) := hidn (by
              rw [hnext.out]
              simp only [Bool.false_eq_true, if_false, List.append_nil]
              exact own3)
            clear own3
            go_wp2_with fail
            exact ⟨⟨k + 1, _, by omega, rfl, by go_num, HO.out, B1⟩, by simp [intOf]; omega⟩
          | true =>
            obtain ⟨sx, sy, hsv⟩ : ∃ sx sy, u3 = .slice sx (spotsOf M (ts.take j) ++ spotsIn M sb.data.toList k).length sy := by
              rcases own3.2 with ⟨h1, h2⟩ | ⟨g, cap, cur, h1, _⟩
              · exact ⟨none, 0, by rw [h1, h2]⟩
              · exact ⟨_, _, h1⟩
            have hnext2 : Hid (spv (spotsOf M (ts.take j) ++ spotsIn M sb.data.toList (k + 1)) = spv (spotsOf M (ts.take j) ++ spotsIn M sb.data.toList k) ++ [.string sb, .int .i64 (k : Int)]) := hidn (by
              rw [hnext.out]
              simp only [if_true]
              rw [← List.append_assoc, spv_append]
              simp [spv, encStr])
            have hnext3 : Hid ((spotsOf M (ts.take j) ++ spotsIn M sb.data.toList (k + 1)).length = (spotsOf M (ts.take j) ++ spotsIn M sb.data.toList k).length + 1) := hidn (by
              rw [hnext.out]
              simp only [if_true]
              rw [← List.append_assoc, List.length_append]
              rfl)
            generalize hq : spotsOf M (ts.take j) ++ spotsIn M sb.data.toList k = Q0 at *
            have HQ := hidn hq
            clear hq
            have hl2 := hlen2.out
            have own4 := own_below own3 ((Below.refl _ w3).alloc (Nat.le_refl _) (.cells #[.string sb, .int .i64 (k : Int)] 73))
            clear own3
            subst hsv
            go_wp2_with (at_builtin; refine wpList_append_own _ rfl _ _ 71 rfl w1.heap.size 73 i0 z 2 24 Try.underlying71 hi hz hzs hby hzc (by decide) _ Q0.length (spv Q0) rfl own4 ⟨w3.heap.size, 0, none⟩ 1 1 [.string sb, .int .i64 (k : Int)] rfl rfl ?c1 ?c2 ?c3 ?c4 ?c5 ?_)
            case c1 =>
              intro i u hi
              match i, hi with
              | 0, hi => simp at hi; subst hi; simp [Addr.add]
              | 1, hi => simp at hi; subst hi; simp [Addr.add]
            case c2 =>
              intro u hu
              simp at hu
              rcases hu with rfl | rfl <;> rfl
            case c3 => unfold maxLen; omega
            case c4 => omega
            case c5 => simp; omega
            intro v' w4 own5 hgrow3 _
            have hnew : Below w3.heap.size w3 (w3.alloc (.cells #[.string sb, .int .i64 (k : Int)] 73)) := (Below.refl _ _).alloc (Nat.le_refl _) _
            have HO : Hid (w4.ownsRow w1.heap.size 73 2 v' (spotsOf M (ts.take j) ++ spotsIn M sb.data.toList (k + 1)).length (spv (spotsOf M (ts.take j) ++ spotsIn M sb.data.toList (k + 1)))) := hidn (by rw [hnext2.out, hnext3.out]; exact own5)
            have B4 : Below w1.heap.size w1 w4 := (B1.alloc hsz _).grown hgrow3 (by simp; omega) (fun k hk => (own4.lt k hk).1)
            clear own4 own5 hgrow3
            go_wp2_with fail
            exact ⟨⟨k + 1, _, by omega, rfl, by go_num, HO.out, B4⟩, by simp [intOf]; omega⟩
        · have hkl2 : ¬ (k : Int) < (n : Int) := by omega
          obtain rfl : k = n := by omega
          rw [← hnx.out] at hown2
          go_wp2_with fail
          exact ⟨⟨j + 1, _, by omega, rfl, by go_num, hown2, hb3⟩, by simp [intOf]; omega⟩
    · have hlt2 : ¬ (j : Int) < (L : Int) := by omega
      obtain rfl : j = L := by omega
      have htk : ts.take j = ts := List.take_of_length_le (by rw [HL.out]; exact Nat.le_refl _)
      rw [htk] at hown
      go_wp2_with fail
      go_ret
      exact ⟨_, rfl, ⟨ts, hnm, ownsRow_base_a hown b1.size⟩, b1.trans (hb1.mono b1.size)⟩
end Go.Proofs.Ytocfbokgbpaneaa
