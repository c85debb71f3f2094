/- wal.readRecord. -/
import Derived.Test.YthhnpajaacfapaaDoorWaA
import Derived.Test.YthhnpajaacfapaaDoorWaB
import Derived.Test.YthhnpajaacfapaaDoorWaG
import Derived.Test.YthhnpajaacfapaaDoorAppA
import Derived.Test.YthhnpajaacfapaaDoorWaH
namespace Go.Proofs.YthhnpajaacfapaaDoor
open Go.RowKit Go.Maps
set_option linter.unusedVariables false

def recGo (G : Nat → Option (List Nat × Nat)) (g : Nat) : Nat → Nat → List Nat → Option (List Nat)
  | 0, _, text => some text
  | k + 1, i, text => match G i with
    | none => none
    | some (p, g') => if g' = g ∧ text.length = i * 106 then recGo G g k (i + 1) (text ++ p) else none

/-- The record that begins at an extent, and ends by another. -/
def recP (M : List UInt8 → List Ext) (s : ByteArray) (at' en : Nat) : Option (List Nat) :=
  match getP M s (at' : Int) with
  | none => none
  | some (t0, g) => if t0.length < 4 then none
    else if needB (getB 0 (t0.take 4) : Nat) = 0 ∨ en < at' + needB (getB 0 (t0.take 4) : Nat) then none
    else (recGo (fun i => getP M s ((at' + i : Nat) : Int)) g (needB (getB 0 (t0.take 4) : Nat) - 1) 1 t0).bind fun text => if text.length = 4 + getB 0 (t0.take 4) then some (text.drop 4) else none

theorem rdO_ok {l : List Ext} (h : ∀ x ∈ l, x.ok) {nm : List Nat} {i : Int} {p : List Nat} {g : Nat} (e : rdO l nm i = some (p, g)) : p.length ≤ 106 ∧ (∀ x ∈ p, x < 256) ∧ g ≤ 4611686018427387904 := by
  unfold rdO at e
  split at e
  · cases e
  · obtain ⟨x, hx, he⟩ := Option.bind_eq_some_iff.1 e
    have hxo := h x (List.mem_of_getElem? hx)
    have hrd : x.rd.length = 128 ∧ ∀ y ∈ x.rd, y < 256 := by
      unfold Ext.rd
      split
      · exact hxo.2.2
      · exact hxo.1
    unfold openB at he
    split at he
    · next hc =>
      simp only [Option.some.injEq, Prod.mk.injEq] at he
      obtain ⟨rfl, rfl⟩ := he
      refine ⟨by rw [List.length_take]; omega, fun y hy => hrd.2 y (List.mem_of_mem_drop (List.mem_of_mem_take hy)), hc.2.1⟩
    · cases he

theorem getP_ok {w : World} {d : Nat} {F : Nat → Prop} {N : Nat} {M : List UInt8 → List Ext} {free fuse : Int} (h : DiskOf w d F N M free fuse) {s : ByteArray} {i : Int} {p : List Nat} {g : Nat} (e : getP M s i = some (p, g)) : p.length ≤ 106 ∧ (∀ x ∈ p, x < 256) ∧ g ≤ 4611686018427387904 := by
  have hok : ∀ t, ∀ x ∈ M t, x.ok := by
    intro t x hx
    obtain ⟨bm, D, G, C, _, _, _, _, _, h6, _⟩ := h
    exact (h6 t (fun e => by rw [e] at hx; simp at hx)).2.2 x hx
  unfold getP at e
  cases hA : rdO (M (fileA s).data.toList) (nums (fileA s)) i with
  | none =>
    rw [hA] at e
    exact rdO_ok (hok _) (show rdO (M (fileB s).data.toList) (nums (fileB s)) i = some (p, g) from e)
  | some x =>
    rw [hA] at e
    cases hB : rdO (M (fileB s).data.toList) (nums (fileB s)) i with
    | none =>
      rw [hB] at e
      have e' : some x = some (p, g) := e
      rw [e'] at hA
      exact rdO_ok (hok _) hA
    | some y =>
      rw [hB] at e
      unfold getO at e
      simp only at e
      split at e
      · rw [e] at hB; exact rdO_ok (hok _) hB
      · rw [e] at hA; exact rdO_ok (hok _) hA

/-- The slice lies in a block of bytes. -/
def U8 (w : World) (a : Option Addr) : Prop := ∀ x, a = some x → ∃ cs fz, w.heap[x.block]? = some (.cells cs 5 fz)

theorem U8.below {w w' : World} {a : Option Addr} (h : U8 w a) (hb : Below w.heap.size w w') : U8 w' a := fun x hx => by
  obtain ⟨cs, fz, hh⟩ := h x hx
  exact ⟨cs, fz, (hb.block _ (Array.getElem?_eq_some_iff.1 hh).1).trans hh⟩

def RecPost (w : World) (r : Option (List Nat)) (e : Ending) (w' : World) : Prop :=
  Below w.heap.size w w' ∧ match r with
    | none => e = .returned (.tuple #[.slice none 0 0, .bool false])
    | some z => ∃ a c, e = .returned (.tuple #[.slice a z.length c, .bool true]) ∧ Bs w' a z.length z ∧ U8 w' a

theorem own_pos {w : World} {base n : Nat} {v : Value} {xs : List Value} (h : w.ownsRow base 5 1 v n xs) (h0 : 0 < n) : ∃ g c, v = .slice (some ⟨g, 0, none⟩) n c ∧ base ≤ g ∧ n ≤ c := by
  rcases h.2 with ⟨_, h1⟩ | ⟨g, cap, cur, hv, hge, _, hle, _⟩
  · omega
  · exact ⟨g, cap, hv, hge, hle⟩

theorem needB_le (n : Int) : needB n ≤ 9435 := by
  unfold needB
  split <;> omega

set_option maxRecDepth 100000 in
set_option maxHeartbeats 8000000 in
theorem readRecord_any (w : World) (d : Nat) (F : Nat → Prop) (N : Nat) (M : List UInt8 → List Ext) (free fuse : Int) (h : DiskOf w d F N M free fuse) (hT : CrcTab w) (hM0 : M [] = []) (s : ByteArray) (hs : s.size ≤ 1000) (at' en : Nat) (hen : en ≤ 2147483647) (hat : at' ≤ en) :
    Calls Tryd.prog 29 #[.pointer (some ⟨d, 0, none⟩), .string s, .int .i64 (at' : Int), .int .i64 (en : Int)] w (RecPost w (recP M s at' en)) := by
  have HD := hidn h
  have hGet := fun (wx : World) (hx : Below w.heap.size w wx) (i : Int) => get_all wx d F N M free fuse (HD.out.below hx) (hT.below hx) hM0 s hs i
  have hGok := fun (i : Int) (p : List Nat) (g : Nat) (e : getP M s i = some (p, g)) => getP_ok HD.out e
  obtain ⟨RR, hRR⟩ : ∃ RR, RR = recP M s at' en := ⟨_, rfl⟩
  have HRR := hidn hRR
  rw [← hRR]
  obtain ⟨i0, z0, hi, hz0, hz1, hz2, hzc⟩ := byInfo
  clear h hRR
  go_enter Tryd.func29, Tryd.ntmps29
  go_wp2_with fail
  refine (hGet _ (Below.refl _ _) (at' : Int)).mono ?_
  rintro e w1 ⟨hb1, hp1⟩
  cases hg0 : getP M s (at' : Int) with
  | none =>
    rw [hg0] at hp1
    obtain rfl := (show e = .returned (.tuple #[.slice none 0 0, .int .i64 0, .int .i64 50]) from hp1)
    have HE : Hid (RecPost w RR (.returned (.tuple #[.slice none 0 0, .bool false])) w1) := hidn (by
      rw [HRR.out]; unfold recP; rw [hg0]; exact ⟨hb1, rfl⟩)
    clear hp1 hg0 hGet hGok
    go_wp2
    go_ret2
    exact HE.out
  | some tg =>
    obtain ⟨t0, g⟩ := tg
    rw [hg0] at hp1
    obtain ⟨v1, rfl, hown1⟩ := (show ∃ v, e = .returned (.tuple #[v, .int .i64 (g : Int), .int .i64 0]) ∧ w1.ownsRow w.heap.size 5 1 v t0.length (vb t0) from hp1)
    obtain ⟨l0, hl0⟩ : ∃ l0, l0 = t0.length := ⟨_, rfl⟩
    rw [← hl0] at hown1
    obtain ⟨ht6, htb, hgb⟩ := hGok _ _ _ hg0
    have HL0 := hidn hl0
    by_cases h4 : l0 < 4
    · obtain ⟨va, vc, rfl⟩ := own_sliceG hown1
      have h4' : decide ((l0 : Int) < 4) = true := by simp; omega
      have h4'' : decide (l0 < 4) = true := by simpa using h4
      have HE : Hid (RecPost w RR (.returned (.tuple #[.slice none 0 0, .bool false])) w1) := hidn (by
        rw [HRR.out]; unfold recP; rw [hg0]; simp only
        rw [if_pos (by rw [← hl0]; exact h4)]
        exact ⟨hb1, rfl⟩)
      clear hp1 hg0 hGet hGok hown1 hl0
      go_wp2
      go_ret2
      exact HE.out
    · have h4' : decide ((l0 : Int) < 4) = false := by simp; omega
      have h4'' : decide (l0 < 4) = false := by simpa using h4
      obtain ⟨b1, c1, rfl, hb1g, hlc1⟩ := own_pos hown1 (by omega)
      have hB1 : Bs w1 (some ⟨b1, 0, none⟩) l0 t0 := by
        have := hown1
        rw [hl0] at this
        obtain ⟨a2, c2, e2, hx⟩ := bs_of_own this htb
        rw [← hl0] at e2 hx
        cases e2
        exact hx
      obtain ⟨size, hsize⟩ : ∃ size, size = getB 0 (t0.take 4) := ⟨_, rfl⟩
      have hB4 := hB1.part 0 4 (by omega)
      rw [List.drop_zero] at hB4
      have hG4 := get_some b1 0 4 c1 (t0.take 4) w1 hB4.2.2.1 hB4.1.symm (by omega) (by omega) (fun j hj => by have := hB4.2.2.2.2 _ rfl j hj; rw [add_none] at this; simpa using this)
      rw [← hsize] at hG4
      have hsb : size < 4294967296 := by
        have := getB_lt _ hB4.2.2.1
        rw [hB4.1, ← hsize] at this
        exact this
      have hc4 : (4 : Int) ≤ (c1 : Int) := by omega
      have hc4' : 4 ≤ c1 := by omega
      have hws : IntKind.i64.wrap (size : Int) = (size : Int) := by rw [IntKind.wrap_i64]; omega
      obtain ⟨E, hE⟩ : ∃ E, E = needB (size : Int) := ⟨_, rfl⟩
      have hND := fun wx => wneed_any wx (size : Int)
      rw [← hE] at hND
      have hEb : E ≤ 9435 := by rw [hE]; exact needB_le _
      have hwe : IntKind.i64.wrap ((en : Int) - (at' : Int)) = ((en - at' : Nat) : Int) := by rw [IntKind.wrap_i64]; omega
      have HSZ := hidn hsize
      have HEE := hidn hE
      have HG0 := hidn hg0
      have HOW := hidn hown1
      clear hB1 hB4 hp1 hown1 hsize hE hg0 hl0
      go_wp2_with fail
      refine hG4.mono ?_
      clear hG4
      rintro e w1' ⟨rfl, rfl⟩
      go_wp2_with fail
      refine (hND _).mono ?_
      clear hND
      rintro e w1' ⟨rfl, rfl⟩
      by_cases hE0 : E = 0 ∨ en < at' + E
      · have HE : Hid (RecPost w RR (.returned (.tuple #[.slice none 0 0, .bool false])) w1') := hidn (by
          rw [HRR.out]; unfold recP; rw [HG0.out]; simp only
          rw [if_neg (by rw [← HL0.out]; omega), ← HSZ.out, ← HEE.out, if_pos hE0]
          exact ⟨hb1, rfl⟩)
        by_cases hE1 : E = 0
        · have hE2 : ((E : Int) == 0) = true := by rw [hE1]; rfl
          clear hGet hGok hE0 hE1
          go_wp2
          go_ret2
          exact HE.out
        · have hE2 : ((E : Int) == 0) = false := beq_eq_false_iff_ne.2 (by omega)
          have hE3 : decide (((en - at' : Nat) : Int) < (E : Int)) = true := by simp; omega
          have hE4 : decide (en - at' < E) = true := by simp; omega
          clear hGet hGok hE0 hE1
          go_wp2
          go_ret2
          exact HE.out
      · have hE2 : ((E : Int) == 0) = false := beq_eq_false_iff_ne.2 (by omega)
        have hE3 : decide (((en - at' : Nat) : Int) < (E : Int)) = false := by simp; omega
        have hE4 : decide (en - at' < E) = false := by simp; omega
        have hE5 : 1 ≤ E := by omega
        have hE6 : at' + E ≤ en := by omega
        obtain ⟨RG, hRG⟩ : ∃ RG, RG = recGo (fun i => getP M s ((at' + i : Nat) : Int)) g (E - 1) 1 t0 := ⟨_, rfl⟩
        have HFin : Hid (RR = RG.bind fun text => if text.length = 4 + size then some (text.drop 4) else none) := hidn (by
          rw [HRR.out]; unfold recP; rw [HG0.out]; simp only
          rw [if_neg (by rw [← HL0.out]; omega), ← HSZ.out, ← HEE.out, if_neg hE0, hRG])
        have HRG := hidn hRG
        clear hRG hE0
        go_wp2_with fail
        go_loopw [10, 17] (fun tv iv wr => ∃ (i : Nat) (text : List Nat), 1 ≤ i ∧ i ≤ E ∧ iv = .int .i64 (i : Int) ∧ Hid (wr.ownsRow w.heap.size 5 1 tv text.length (vb text) ∧ (∀ x ∈ text, x < 256) ∧ text.length ≤ i * 106 ∧ 4 ≤ text.length) ∧ Hid (RG = recGo (fun i => getP M s ((at' + i : Nat) : Int)) g (E - i) i text) ∧ Below w.heap.size w wr) (fun _ iv _ => E - (intOf iv).toNat)
        case atStart => exact ⟨1, t0, by omega, hE5, rfl, hidn ⟨by rw [← HL0.out]; exact HOW.out, htb, by omega, by rw [← HL0.out]; omega⟩, HRG, hb1⟩
        case round =>
          obtain ⟨i, text, hi1, hiE, rfl, HTX, HGO, hbi⟩ := hrel
          obtain ⟨tl, htl⟩ : ∃ tl, tl = text.length := ⟨_, rfl⟩
          have HOT := hidn HTX.out.1
          rw [← htl] at HOT
          obtain ⟨bt, ct, e10, hbt, hct⟩ := own_pos HOT.out (by have := HTX.out.2.2.2; omega)
          have HTL := hidn htl
          have htb2 : 4 ≤ tl ∧ tl ≤ i * 106 := by have := HTX.out.2.2; omega
          subst e10
          clear htl
          by_cases hlt : i < E
          · have hlt2 : (i : Int) < (E : Int) := by omega
            obtain ⟨ai, hai⟩ : ∃ ai, ai = at' + i := ⟨_, rfl⟩
            have hwa : IntKind.i64.wrap ((at' : Int) + (i : Int)) = (ai : Int) := by rw [IntKind.wrap_i64]; omega
            have hwa2 : (at' : Int) + (i : Int) = (ai : Int) := by omega
            have HAI := hidn hai
            obtain ⟨m6, hm6⟩ : ∃ m6, m6 = i * 106 := ⟨_, rfl⟩
            have hwm : IntKind.i64.wrap ((i : Int) * 106) = (m6 : Int) := by rw [IntKind.wrap_i64]; omega
            have hwm2 : (i : Int) * 106 = (m6 : Int) := by omega
            have HM6 := hidn hm6
            have HGo2 : Hid (RG = match getP M s (ai : Int) with | none => none | some (p, g') => if g' = g ∧ text.length = i * 106 then recGo (fun i => getP M s ((at' + i : Nat) : Int)) g (E - (i + 1)) (i + 1) (text ++ p) else none) := hidn (by
              rw [HGO.out, show E - i = (E - (i + 1)) + 1 from by omega, HAI.out]
              rfl)
            have htb3 : tl ≤ 1000110 := by omega
            have HLT := hidn hlt
            clear hai hm6 hlt
            go_wp2_with fail
            refine (hGet _ hbi (ai : Int)).mono ?_
            rintro e w2 ⟨hb2, hp2⟩
            have hbi2 : Below w.heap.size w w2 := hbi.trans (hb2.mono hbi.size)
            have HO2 := hidn (own_of_below HOT.out hb2)
            clear HOT hb2
            cases hg2 : getP M s (ai : Int) with
            | none =>
              rw [hg2] at hp2
              obtain rfl := (show e = .returned (.tuple #[.slice none 0 0, .int .i64 0, .int .i64 50]) from hp2)
              have HE : Hid (RecPost w RR (.returned (.tuple #[.slice none 0 0, .bool false])) w2) := hidn (by
                have := HGo2.out
                rw [hg2] at this
                rw [HFin.out, this]
                exact ⟨hbi2, rfl⟩)
              clear hp2 hg2 hGet hGok
              go_wp2
              go_ret2
              exact HE.out
            | some pg =>
              obtain ⟨p, g'⟩ := pg
              rw [hg2] at hp2
              obtain ⟨v2, rfl, hown2⟩ := (show ∃ v, e = .returned (.tuple #[v, .int .i64 (g' : Int), .int .i64 0]) ∧ w2.ownsRow wr.heap.size 5 1 v p.length (vb p) from hp2)
              obtain ⟨va2, vc2, rfl⟩ := own_sliceG hown2
              obtain ⟨hp6, hpb, _⟩ := hGok _ _ _ hg2
              have hB2 : Bs w2 va2 p.length p := by
                obtain ⟨a2, c2, e2, hx⟩ := bs_of_own hown2 hpb
                cases e2
                exact hx
              have HG3 := HGo2.out
              rw [hg2] at HG3
              simp only at HG3
              have HG4 := hidn HG3
              obtain ⟨pl, hpl⟩ : ∃ pl, pl = p.length := ⟨_, rfl⟩
              rw [← hpl] at hB2 hp6 ⊢
              have HPL := hidn hpl
              have HPB := hidn hpb
              clear HG3 hg2 hp2 hown2 hpl hpb HGo2
              by_cases hgg : g' = g
              · have hgg1 : ((g' : Int) != (g : Int)) = false := by rw [hgg]; simp
                have HGG := hidn hgg
                clear hgg
                by_cases htm : tl = m6
                · have htm1 : ((tl : Int) != (m6 : Int)) = false := by rw [htm]; simp
                  obtain ⟨v3, w3, hrun, hown3, hgr3⟩ := appAny w2 w.heap.size 29 29 5 i0 z0 1 1 Tryd.underlying29 hi hz0 hz1 hz2 hzc (by decide) (.slice (some ⟨bt, 0, none⟩) tl ct) tl (vb text) HO2.out hbi2.size va2 pl vc2 (vb p) (by rw [length_vb, HPL.out, Nat.mul_one]) (fun e => hB2.2.2.2.1 e) (fun x hx j u hu => by subst hx; exact bs_cellsB hB2 j u hu) (one_vb p) (by unfold maxLen; omega) (by omega)
                  have hb3 : Below w.heap.size w w3 := hbi2.grown hgr3 hbi2.size (fun k hk => (HO2.out.lt k hk).1)
                  have HN3 : Hid (w3.ownsRow w.heap.size 5 1 v3 (text ++ p).length (vb (text ++ p)) ∧ (∀ x ∈ text ++ p, x < 256) ∧ (text ++ p).length ≤ (i + 1) * 106 ∧ 4 ≤ (text ++ p).length) := hidn (by
                    refine ⟨by rw [vb_appendB, List.length_append, ← HTL.out, ← HPL.out]; exact hown3, fun x hx => ?_, by rw [List.length_append, ← HTL.out, ← HPL.out]; omega, by rw [List.length_append, ← HTL.out]; omega⟩
                    rcases List.mem_append.1 hx with hx | hx
                    · exact HTX.out.2.1 x hx
                    · exact HPB.out x hx)
                  have HG5 : Hid (RG = recGo (fun i => getP M s ((at' + i : Nat) : Int)) g (E - (i + 1)) (i + 1) (text ++ p)) := hidn (by
                    rw [HG4.out, if_pos ⟨HGG.out, by rw [← HTL.out, htm, HM6.out]⟩])
                  obtain ⟨b3, c3, e3, _, _⟩ := own_pos hown3 (by omega)
                  subst e3
                  have HRUN := hidn hrun
                  clear hrun hown3 hgr3 hB2 HO2 HTX htm hGet hGok
                  go_wp2_with (at_builtin; refine wpList_app_runA rfl _ _ 29 29 rfl rfl (.slice (some ⟨bt, 0, none⟩) tl ct) (.slice va2 pl vc2) _ rfl rfl HRUN.out ?_; clear HRUN)
                  go_roundw
                  case rel => exact ⟨i + 1, text ++ p, by omega, HLT.out, by simp, HN3, HG5, hb3⟩
                  case measure => simp [intOf]; have := HLT.out; omega
                · have htm1 : ((tl : Int) != (m6 : Int)) = true := by simp; omega
                  have HE : Hid (RecPost w RR (.returned (.tuple #[.slice none 0 0, .bool false])) w2) := hidn (by
                    have := HG4.out
                    rw [if_neg (fun h => htm (by rw [HTL.out, HM6.out]; exact h.2))] at this
                    rw [HFin.out, this]
                    exact ⟨hbi2, rfl⟩)
                  clear hGet hGok htm hB2 HO2
                  go_wp2
                  go_ret2
                  exact HE.out
              · have hgg1 : ((g' : Int) != (g : Int)) = true := by simp; omega
                have HE : Hid (RecPost w RR (.returned (.tuple #[.slice none 0 0, .bool false])) w2) := hidn (by
                  have := HG4.out
                  rw [if_neg (fun h => hgg h.1)] at this
                  rw [HFin.out, this]
                  exact ⟨hbi2, rfl⟩)
                clear hGet hGok hgg hB2 HO2
                go_wp2
                go_ret2
                exact HE.out
          · obtain rfl : i = E := by omega
            have hlt2 : ¬ (i : Int) < (i : Int) := by omega
            have HG2 : Hid (RG = some text) := hidn (by rw [HGO.out, Nat.sub_self]; rfl)
            have hw4 : IntKind.i64.wrap (4 + (size : Int)) = 4 + (size : Int) := by rw [IntKind.wrap_i64]; omega
            by_cases hsz : tl = 4 + size
            · have hsz1 : ((tl : Int) != 4 + (size : Int)) = false := by simp; omega
              have hs1 : 1 ≤ size := by
                have := HEE.out
                unfold needB at this
                split at this
                · omega
                · omega
              have s1 : (4 : Int) ≤ (tl : Int) := by omega
              have s2 : 4 ≤ tl := by omega
              have s3 : ¬ ct = 4 := by omega
              have s4 : 4 ≤ ct := by omega
              have HE : Hid (RecPost w RR (.returned (.tuple #[.slice (some ⟨bt, 4, none⟩) (tl - 4) (ct - 4), .bool true])) wr) := hidn (by
                rw [HFin.out, HG2.out]; simp only [Option.bind_some]
                rw [if_pos (by rw [← HTL.out]; exact hsz)]
                have hlen : (text.drop 4).length = tl - 4 := by rw [List.length_drop, HTL.out]
                have hB : Bs wr (some ⟨bt, 0, none⟩) tl text := by
                  have h0 := HOT.out
                  rw [HTL.out] at h0
                  obtain ⟨a2, c2, e2, hx⟩ := bs_of_own h0 HTX.out.2.1
                  rw [← HTL.out] at e2 hx
                  cases e2
                  exact hx
                have hP := hB.part 4 (tl - 4) (by omega)
                rw [List.take_of_length_le (by rw [hlen]; omega), Nat.zero_add] at hP
                refine ⟨hbi, some ⟨bt, 4, none⟩, ct - 4, by rw [hlen], by rw [hlen]; exact hP, fun x hx => ?_⟩
                cases hx
                rcases HOT.out.2 with ⟨h1, _⟩ | ⟨g9, cap9, cur9, hv9, _, hh9, _⟩
                · cases h1
                · cases hv9
                  exact ⟨_, _, hh9⟩)
              clear hGet hGok hsz
              go_wp2
              go_ret2
              exact HE.out
            · have hsz1 : ((tl : Int) != 4 + (size : Int)) = true := by simp; omega
              have HE : Hid (RecPost w RR (.returned (.tuple #[.slice none 0 0, .bool false])) wr) := hidn (by
                rw [HFin.out, HG2.out]; simp only [Option.bind_some]
                rw [if_neg (by rw [← HTL.out]; exact hsz)]
                exact ⟨hbi, rfl⟩)
              clear hGet hGok hsz
              go_wp2
              go_ret2
              exact HE.out
end Go.Proofs.YthhnpajaacfapaaDoor

namespace Go.Proofs.YthhnpajaacfapaaDoor
open Go.RowKit Go.Maps
set_option linter.unusedVariables false

def readGo (M : List UInt8 → List Ext) (s : ByteArray) (en : Nat) : Nat → Nat → List (List Nat) → Option (List (List Nat))
  | 0, _, acc => some acc
  | f + 1, at', acc => if at' < en then (match recP M s at' en with | none => none | some z => readGo M s en f (at' + needB (z.length : Int)) (acc ++ [z])) else some acc

/-- The records of a segment's first extents. -/
def readP (M : List UInt8 → List Ext) (s : ByteArray) (en : Nat) : Option (List (List Nat)) := readGo M s en (en + 1) 0 []

theorem recP_some {M : List UInt8 → List Ext} {s : ByteArray} {at' en : Nat} {z : List Nat} (h : recP M s at' en = some z) : 1 ≤ needB (z.length : Int) ∧ at' + needB (z.length : Int) ≤ en := by
  unfold recP at h
  split at h
  · cases h
  · next t0 g hg =>
    split at h
    · cases h
    · split at h
      · cases h
      · next hn =>
        obtain ⟨text, _, ht⟩ := Option.bind_eq_some_iff.1 h
        split at ht
        · next hl =>
          cases ht
          have e : (text.drop 4).length = getB 0 (t0.take 4) := by rw [List.length_drop]; omega
          rw [e]
          omega
        · cases ht

/-- A list of texts in memory. -/
def Txs (w : World) (base : Nat) (v : Value) (rs : List (List Nat)) : Prop :=
  ∃ vs : List Value, w.ownsRow base 29 1 v rs.length vs ∧ ∀ (i : Nat) (z : List Nat), rs[i]? = some z → ∃ (a : Option Addr) (c : Nat), vs[i]? = some (Value.slice a z.length c) ∧ Bs w a z.length z ∧ U8 w a

def ReadPost (w : World) (r : Option (List (List Nat))) (e : Ending) (w' : World) : Prop :=
  Below w.heap.size w w' ∧ match r with
    | none => e = .returned (.tuple #[.slice none 0 0, .int .i64 50])
    | some rs => ∃ v, e = .returned (.tuple #[v, .int .i64 0]) ∧ Txs w' w.heap.size v rs

theorem own_belowJ {w w' : World} {base e size n : Nat} {v : Value} {xs : List Value} (h : w.ownsRow base e size v n xs) (hb : Below w.heap.size w w') : w'.ownsRow base e size v n xs := own_below h hb

theorem Txs.below {w w' : World} {base : Nat} {v : Value} {rs : List (List Nat)} (h : Txs w base v rs) (hb : Below w.heap.size w w') : Txs w' base v rs := by
  obtain ⟨vs, h1, h2⟩ := h
  refine ⟨vs, own_below h1 hb, fun i z hz => ?_⟩
  obtain ⟨a, c, e, hB, hU⟩ := h2 i z hz
  exact ⟨a, c, e, hB.below hb, hU.below hb⟩

theorem infoBs : ∃ i0, Tryd.prog.info? 29 = some i0 ∧ i0.zero = some (.slice none 0 0) ∧ i0.size = 1 ∧ i0.bytes = 24 := by
  have h : (Tryd.prog.info? 29).map (fun i => (i.zero, i.size, i.bytes)) = some (some (.slice none 0 0), 1, 24) := by kernel_rfl
  obtain ⟨i0, hi, h1, h2, h3⟩ := info_parts h
  exact ⟨i0, hi, h1, h2, h3⟩

/-- A text more. -/
theorem Txs.snoc {w w' : World} {base : Nat} {v v' : Value} {rs : List (List Nat)} {z : List Nat} {a : Option Addr} {c : Nat} {vs : List Value} (h1 : w.ownsRow base 29 1 v rs.length vs) (h2 : ∀ (i : Nat) (z : List Nat), rs[i]? = some z → ∃ (a : Option Addr) (c : Nat), vs[i]? = some (Value.slice a z.length c) ∧ Bs w a z.length z ∧ U8 w a)
    (hB : Bs w a z.length z) (hU : U8 w a) (hown : w'.ownsRow base 29 1 v' (rs.length + 1) (vs ++ [.slice a z.length c])) (hgr : w.grownBy w' v.ownBlock) : Txs w' base v' (rs ++ [z]) := by
  have hkeep : ∀ (a : Option Addr) (n : Nat) (zs : List Nat), Bs w a n zs → U8 w a → Bs w' a n zs ∧ U8 w' a := by
    intro a n zs hb hu
    have hblk : ∀ x, a = some x → w'.heap[x.block]? = w.heap[x.block]? := fun x hx => by
      obtain ⟨cs, fz, hh⟩ := hu x hx
      refine hgr.block _ (Array.getElem?_eq_some_iff.1 hh).1 (fun e => ?_)
      rcases h1.2 with ⟨hv, _⟩ | ⟨g, cap, cur, hv, _, hg, _⟩
      · rw [hv] at e; cases e
      · rw [hv] at e
        simp [Value.ownBlock] at e
        rw [e, hg] at hh
        cases hh
    refine ⟨⟨hb.1, hb.2.1, hb.2.2.1, hb.2.2.2.1, fun x hx j hj => ?_⟩, fun x hx => ?_⟩
    · have e : (x.add j).block = x.block := by unfold Addr.add; split <;> rfl
      exact (World.cell?_of_block (w := w) (by rw [e]; exact hblk x hx)).trans (hb.2.2.2.2 x hx j hj)
    · obtain ⟨cs, fz, hh⟩ := hu x hx
      exact ⟨cs, fz, (hblk x hx).trans hh⟩
  have hvl : vs.length = rs.length := by have := h1.1; simpa using this
  refine ⟨vs ++ [.slice a z.length c], by rw [List.length_append, List.length_singleton]; exact hown, fun i y hy => ?_⟩
  by_cases hi : i < rs.length
  · rw [List.getElem?_append_left hi] at hy
    obtain ⟨a', c', e, hB', hU'⟩ := h2 i y hy
    obtain ⟨k1, k2⟩ := hkeep a' _ _ hB' hU'
    exact ⟨a', c', by rw [List.getElem?_append_left (by omega)]; exact e, k1, k2⟩
  · have hi2 : i = rs.length := by
      have := (List.getElem?_eq_some_iff.1 hy).1
      rw [List.length_append, List.length_singleton] at this
      omega
    subst hi2
    rw [List.getElem?_append_right (Nat.le_refl _), Nat.sub_self] at hy
    cases hy
    obtain ⟨k1, k2⟩ := hkeep a _ _ hB hU
    exact ⟨a, c, by rw [List.getElem?_append_right (by omega), hvl, Nat.sub_self]; rfl, k1, k2⟩

set_option maxRecDepth 100000 in
set_option maxHeartbeats 4000000 in
theorem read_wal (w : World) (d : Nat) (F : Nat → Prop) (N : Nat) (M : List UInt8 → List Ext) (free fuse : Int) (h : DiskOf w d F N M free fuse) (hT : CrcTab w) (hM0 : M [] = []) (s : ByteArray) (hs : s.size ≤ 1000) (en : Nat) (hen : en ≤ 2147483647)
    (seg : Int) (hs0 : 0 ≤ seg) (hs1 : seg ≤ 4611686018427387904) (hName : ∀ wx, Below w.heap.size w wx → Calls Tryd.prog 19 #[.int .i64 seg] wx fun e w' => e = .returned (.string s) ∧ Below wx.heap.size wx w') :
    Calls Tryd.prog 11 #[.pointer (some ⟨d, 0, none⟩), .int .i64 seg, .int .i64 (en : Int)] w (ReadPost w (readP M s en)) := by
  have HD := hidn h
  have hRec := fun (wx : World) (hx : Below w.heap.size w wx) (at' : Nat) (hat : at' ≤ en) => readRecord_any wx d F N M free fuse (HD.out.below hx) (hT.below hx) hM0 s hs at' en hen hat
  obtain ⟨PP, hPP⟩ : ∃ PP, PP = readP M s en := ⟨_, rfl⟩
  have HPP := hidn hPP
  rw [← hPP]
  obtain ⟨i0, hi, hz0, hz1, hz2⟩ := infoBs
  have he0 : decide ((en : Int) < 0) = false := by simp
  have he1 : decide (2147483647 < (en : Int)) = false := by simp; omega
  clear h hPP
  go_enter Tryd.func11, Tryd.ntmps11
  go_wp2_with fail
  refine (walMade _ d F N M free fuse HD.out hM0).mono ?_
  rintro e w1 ⟨rfl, hb1⟩
  go_wp2_with fail
  refine (isNumber_yes _ _ hs0 hs1).mono ?_
  rintro e w1' ⟨rfl, rfl⟩
  go_wp2_with fail
  refine (hName _ hb1).mono ?_
  rintro e w2 ⟨rfl, hb2⟩
  have hb12 : Below w.heap.size w w2 := hb1.trans (hb2.mono hb1.size)
  clear hb1 hb2 hName
  go_wp2_with fail
  go_loopw [9, 10] (fun rv iv wr => ∃ (at' f : Nat) (acc : List (List Nat)), at' ≤ en ∧ iv = .int .i64 (at' : Int) ∧ acc.length ≤ at' ∧ Hid (Txs wr w.heap.size rv acc) ∧ Hid (PP = readGo M s en (f + 1) at' acc ∧ en ≤ f + at') ∧ Below w.heap.size w wr) (fun _ iv _ => en - (intOf iv).toNat)
  case atStart => exact ⟨0, en, [], Nat.zero_le _, rfl, Nat.le_refl _, hidn ⟨[], World.ownsRow_nil _ _ _ _, fun i z hz => by simp at hz⟩, hidn ⟨HPP.out, Nat.le_refl _⟩, hb12⟩
  case round =>
    obtain ⟨at', f, acc, hat, rfl, hal, HTX, HGO, hbi⟩ := hrel
    by_cases hlt : at' < en
    · have hlt2 : (at' : Int) < (en : Int) := by omega
      have HLT := hidn hlt
      have HStep : Hid (PP = match recP M s at' en with | none => none | some z => readGo M s en f (at' + needB (z.length : Int)) (acc ++ [z])) := hidn (by
        rw [HGO.out.1]
        show (if at' < en then _ else _) = _
        rw [if_pos hlt])
      clear hlt
      go_wp2_with fail
      refine (hRec _ hbi at' hat).mono ?_
      rintro e w3 ⟨hb3, hp3⟩
      have hbi3 : Below w.heap.size w w3 := hbi.trans (hb3.mono hbi.size)
      have HT3 := hidn (HTX.out.below hb3)
      clear hb3
      cases hr : recP M s at' en with
      | none =>
        rw [hr] at hp3
        obtain rfl := (show e = .returned (.tuple #[.slice none 0 0, .bool false]) from hp3)
        have HE : Hid (ReadPost w PP (.returned (.tuple #[.slice none 0 0, .int .i64 50])) w3) := hidn (by
          have := HStep.out
          rw [hr] at this
          rw [this]
          exact ⟨hbi3, rfl⟩)
        clear hp3 hr hRec
        go_wp2
        go_ret2
        exact HE.out
      | some z =>
        rw [hr] at hp3
        obtain ⟨a3, c3, rfl, hB3, hU3⟩ := (show ∃ a c, e = .returned (.tuple #[.slice a z.length c, .bool true]) ∧ Bs w3 a z.length z ∧ U8 w3 a from hp3)
        obtain ⟨hn1, hn2⟩ := recP_some hr
        have HS2 := HStep.out
        rw [hr] at HS2
        simp only at HS2
        have HS3 := hidn HS2
        obtain ⟨vs, hv1, hv2⟩ := HT3.out
        have HV2 := hidn hv2
        obtain ⟨zl, hzl⟩ : ∃ zl, zl = z.length := ⟨_, rfl⟩
        have hND := fun wx => wneed_any wx (zl : Int)
        obtain ⟨nd, hnd⟩ : ∃ nd, nd = needB (zl : Int) := ⟨_, rfl⟩
        rw [← hnd] at hND
        have HND := hidn hnd
        have HZL := hidn hzl
        rw [← hzl, ← hnd] at hn1 hn2
        rw [← hzl]
        obtain ⟨va, vc, e9⟩ := own_sliceB hv1
        subst e9
        obtain ⟨al, halen⟩ : ∃ al, al = acc.length := ⟨_, rfl⟩
        have HAL := hidn halen
        rw [← halen] at hv1 hal ⊢
        have HV1 := hidn hv1
        have HB3 := hidn (show Bs w3 a3 zl z from by rw [hzl]; exact hB3)
        have HU3 := hidn hU3
        have hbs := hbi3.size
        have hwn : IntKind.i64.wrap ((at' : Int) + (nd : Int)) = ((at' + nd : Nat) : Int) := by rw [IntKind.wrap_i64]; omega
        obtain ⟨an, han⟩ : ∃ an, an = at' + nd := ⟨_, rfl⟩
        rw [← han] at hwn
        have hwn2 : (at' : Int) + (nd : Int) = (an : Int) := by omega
        have HAN := hidn han
        clear hp3 hr hB3 hU3 HS2 hv1 hv2 hnd hzl halen han HT3 HTX hRec
        go_wp2_with (at_builtin; refine wpList_append_own _ rfl _ _ 28 rfl w.heap.size 29 i0 (.slice none 0 0) 1 24 Tryd.underlying28 hi hz0 hz1 hz2 rfl (by decide) (.slice va al vc) al vs rfl (HV1.out.alloc _) ⟨w3.heap.size, 0, none⟩ 1 1 [.slice a3 zl c3] rfl rfl ?c1 ?c2 (by unfold maxLen; omega) (by omega) (by simp; omega) ?_)
        case c1 =>
          intro j u hu
          match j, hu with
          | 0, hu => cases hu; rw [add_none]; exact cell_of_row _ _ _ _ _ _ (heap_alloc_new _ _)
        case c2 => intro u hu; simp at hu; subst hu; rfl
        intro v4 w4 own4 hgr4 _
        have bA : Below w3.heap.size w3 (w3.alloc (.cells #[.slice a3 zl c3] 29)) := (Below.refl _ _).alloc (Nat.le_refl _) _
        have HT4 : Hid (Txs w4 w.heap.size v4 (acc ++ [z])) := hidn (by
          refine Txs.snoc (a := a3) (c := c3) (by rw [← HAL.out]; exact HV1.out.alloc _) (fun i y hy => ?_) (by rw [← HZL.out]; exact HB3.out.below bA) (HU3.out.below bA) (by rw [← HAL.out, ← HZL.out]; exact own4) hgr4
          obtain ⟨a, c, e, k1, k2⟩ := HV2.out i y hy
          exact ⟨a, c, e, k1.below bA, k2.below bA⟩)
        have hbA : Below w.heap.size w (w3.alloc (.cells #[.slice a3 zl c3] 29)) := hbi3.trans (bA.mono hbs)
        have hb4 : Below w.heap.size w w4 := hbA.grown hgr4 hbA.size (fun k hk => (HV1.out.lt k hk).1)
        have HS4 : Hid (PP = readGo M s en f an (acc ++ [z])) := hidn (by rw [HS3.out, ← HZL.out, ← HND.out, ← HAN.out])
        have HF4 : Hid (∃ f', f = f' + 1 ∧ en ≤ f' + an) := hidn (by
          have h1 := HGO.out.2
          have h2 := HLT.out
          have h3 := HAN.out
          exact ⟨f - 1, by omega, by omega⟩)
        obtain ⟨v4a, v4c, e4⟩ := own_sliceB own4
        subst e4
        clear own4 hgr4 bA hbA HV1 HV2
        go_wp2_with fail
        refine (hND _).mono ?_
        clear hND
        rintro e w5 ⟨rfl, rfl⟩
        go_wp2
        go_roundw
        case rel =>
          obtain ⟨f', hf1, hf2⟩ := HF4.out
          exact ⟨an, f', acc ++ [z], by have := HAN.out; omega, rfl, by rw [List.length_append, ← HAL.out, List.length_singleton]; have := HAN.out; omega, HT4, hidn ⟨by rw [HS4.out, hf1], hf2⟩, hb4⟩
        case measure => simp [intOf]; have := HAN.out; have := HLT.out; omega
    · have hlt2 : ¬ (at' : Int) < (en : Int) := by omega
      have HE : Hid (ReadPost w PP (.returned (.tuple #[u9, .int .i64 0])) wr) := hidn (by
        have := HGO.out.1
        rw [show readGo M s en (f + 1) at' acc = some acc from by show (if at' < en then _ else _) = _; rw [if_neg hlt]] at this
        rw [this]
        exact ⟨hbi, _, rfl, HTX.out⟩)
      clear hRec hlt
      go_wp2
      go_ret2
      exact HE.out
end Go.Proofs.YthhnpajaacfapaaDoor

namespace Go.Proofs.YthhnpajaacfapaaDoor
open Go.RowKit Go.Maps
set_option linter.unusedVariables false

/-- Extents as they are written, from a number on. -/
def fileW (s : ByteArray) (at' g : Nat) (ps : List (List Nat)) : List Ext := (ps.zipIdx at').map fun q => zeroE.wrote (frameB (nums s) q.2 g q.1)

theorem fileW_length (s : ByteArray) (at' g : Nat) (ps : List (List Nat)) : (fileW s at' g ps).length = ps.length := by simp [fileW]

theorem fileW_snoc (s : ByteArray) (at' g : Nat) (ps : List (List Nat)) (p : List Nat) : fileW s at' g (ps ++ [p]) = fileW s at' g ps ++ [zeroE.wrote (frameB (nums s) (at' + ps.length) g p)] := by
  unfold fileW
  rw [List.zipIdx_append, List.map_append]
  rfl

theorem fileW_at (s : ByteArray) (at' g : Nat) (ps : List (List Nat)) (k : Nat) (p : List Nat) (h : ps[k]? = some p) : (fileW s at' g ps)[k]? = some (zeroE.wrote (frameB (nums s) (at' + k) g p)) := by
  unfold fileW
  rw [List.getElem?_map, List.getElem?_zipIdx, h]
  rfl

def burnK (fuse : Int) (k : Nat) : Int := if fuse = -1 then -1 else fuse - k

theorem burnK_zero (fuse : Int) : burnK fuse 0 = fuse := by unfold burnK; split <;> omega

theorem burnK_succ {fuse : Int} {k : Nat} (h : fuse = -1 ∨ (k : Int) + 1 ≤ fuse) : burnt (burnK fuse k) = burnK fuse (k + 1) := by
  unfold burnK burnt
  by_cases h1 : fuse = -1
  · simp [h1]
  · rw [if_neg h1, if_neg h1, if_neg (by omega)]
    omega

theorem burnK_ne {fuse : Int} {k : Nat} (h : fuse = -1 ∨ (k : Int) + 1 ≤ fuse) : burnK fuse k ≠ 0 := by
  unfold burnK
  split <;> omega

theorem upd_upd' (M : List UInt8 → List Ext) (s : List UInt8) (a b : List Ext) : upd (upd M s a) s b = upd M s b := by
  funext t
  unfold upd
  split <;> rfl

theorem upd_eq (M : List UInt8 → List Ext) (s : List UInt8) : upd M s (M s) = M := by
  funext t
  unfold upd
  split
  · next h => rw [h]
  · rfl

theorem wr_new (st : St) (nm : List UInt8) (i : Nat) (z : List Nat) (hi : i = (st.M nm).length) (h0 : st.fuse ≠ 0) (hf : st.free ≠ 0) : wrD st nm i z = (⟨upd st.M nm (st.M nm ++ [zeroE.wrote z]), st.free - 1, burnt st.fuse⟩, 0) := by
  unfold wrD
  rw [if_neg (by omega), if_neg h0, List.getElem?_eq_none (by omega)]
  simp only
  rw [if_neg hf]

theorem wr_dead (st : St) (nm : List UInt8) (i : Nat) (z : List Nat) (hi : i = (st.M nm).length) (h0 : st.fuse = 0) : wrD st nm i z = (st, 31) := by
  unfold wrD
  rw [if_neg (by omega), if_pos h0]

/-- Parts written at a file's end, as far as the fuse lets. -/
theorem wrAll_end (st : St) (s : ByteArray) (at' g : Nat) (hat : at' = (st.M s.data.toList).length) : ∀ ps : List (List Nat), (ps.length : Int) ≤ st.free → (st.fuse = -1 ∨ (ps.length : Int) ≤ st.fuse) →
    wrAll st s at' g ps = (⟨upd st.M s.data.toList (st.M s.data.toList ++ fileW s at' g ps), st.free - ps.length, burnK st.fuse ps.length⟩, 0) := by
  intro ps
  obtain ⟨n, hn⟩ : ∃ n, n = ps.length := ⟨_, rfl⟩
  induction n generalizing ps with
  | zero =>
    intro _ _
    have : ps = [] := List.length_eq_zero_iff.1 hn.symm
    subst this
    show (st, (0 : Int)) = _
    rw [show fileW s at' g [] = [] from rfl, List.append_nil, upd_eq, List.length_nil, burnK_zero]
    simp
  | succ n ih =>
    intro hf hb
    obtain ⟨qs, q, rfl⟩ : ∃ qs q, ps = qs ++ [q] := by
      refine ⟨ps.dropLast, ps.getLast (by intro h; rw [h] at hn; simp at hn), ?_⟩
      rw [List.dropLast_concat_getLast]
    rw [List.length_append, List.length_singleton] at hn hf hb
    have h1 := ih qs (by omega) (by omega) (by omega)
    rw [wrAll_snoc, h1]
    unfold wrStep
    simp only [if_true]
    rw [wr_new _ _ _ _ (by show at' + qs.length = (upd st.M s.data.toList _ s.data.toList).length; rw [upd_same, List.length_append, fileW_length, hat]) (by show burnK st.fuse qs.length ≠ 0; exact burnK_ne (by omega)) (by show st.free - (qs.length : Int) ≠ 0; omega)]
    simp only [upd_same, upd_upd', List.append_assoc]
    rw [fileW_snoc, List.length_append, List.length_singleton, burnK_succ (by omega)]
    congr 2
    omega

theorem wrAll_dead (st : St) (s : ByteArray) (at' g : Nat) (hat : at' = (st.M s.data.toList).length) (ps : List (List Nat)) (hf : (ps.length : Int) ≤ st.free) (h0 : 0 ≤ st.fuse) (hb : st.fuse < ps.length) :
    wrAll st s at' g ps = (⟨upd st.M s.data.toList (st.M s.data.toList ++ fileW s at' g (ps.take st.fuse.toNat)), st.free - st.fuse, 0⟩, 31) := by
  obtain ⟨j, hj⟩ : ∃ j : Nat, st.fuse = (j : Int) := ⟨st.fuse.toNat, by omega⟩
  rw [hj, Int.toNat_natCast]
  have hjl : j < ps.length := by omega
  have hl : (ps.take j).length = j := by rw [List.length_take]; omega
  have e : ps = (ps.take j ++ [ps[j]]) ++ ps.drop (j + 1) := by
    rw [← List.take_succ_eq_append_getElem hjl, List.take_append_drop]
  have h1 := wrAll_end st s at' g hat (ps.take j) (by rw [hl]; omega) (by rw [hl]; omega)
  rw [hl] at h1
  have h2 : wrAll st s at' g (ps.take j ++ [ps[j]]) = (⟨upd st.M s.data.toList (st.M s.data.toList ++ fileW s at' g (ps.take j)), st.free - j, 0⟩, 31) := by
    rw [wrAll_snoc, h1]
    unfold wrStep
    simp only [if_true]
    have hz : burnK st.fuse j = 0 := by rw [hj]; unfold burnK; rw [if_neg (by omega)]; omega
    rw [hz, wr_dead _ _ _ _ (by show at' + (ps.take j).length = (upd st.M s.data.toList _ s.data.toList).length; rw [upd_same, List.length_append, fileW_length, hat]) rfl]
  rw [e, wrAll_stuck s g st at' _ (by rw [h2]; show (31 : Int) ≠ 0; decide), h2]
  have e2 : (ps.take j ++ [ps[j]] ++ ps.drop (j + 1)).take j = ps.take j := by rw [← e]
  rw [e2]

/-- What is settled stays so. -/
theorem synced_calm {x : Ext} (h : x.waits = false) : x.synced = x := by
  unfold Ext.synced
  simp [h]
end Go.Proofs.YthhnpajaacfapaaDoor
