/- scan: a pattern's signs. -/
import Derived.Test.YtdgkjiiegmnjfaaRxK
import Derived.Laws.RangeString
import Derived.Laws.RangeAny
import Derived.Lib.OthersKept
namespace Go.Proofs.Ytdgkjiiegmnjfaa
open Go.RowKit Go.Joins
set_option linter.unusedVariables false

theorem decode_lt (s : ByteArray) (i : Nat) : (Utf8.decode s i).1 < 2147483648 := by
  unfold Utf8.decode
  simp only [Utf8.runeError]
  repeat' split
  all_goals (simp only; omega)
def scanL (s : ByteArray) : Nat → Nat → Bool → List Sg → Option (List Sg × Bool)
  | 0, _, _, _ => none
  | f + 1, pos, esc, acc => if pos < s.size then
      (if (Utf8.decode s pos).1 = 65533 then none
      else if (Utf8.decode s pos).1 = 92 ∧ esc = false then scanL s f (pos + (Utf8.decode s pos).2) true acc
      else scanL s f (pos + (Utf8.decode s pos).2) false (acc ++ [⟨((Utf8.decode s pos).1 : Int), esc⟩]))
    else some (acc, esc)
def scanS (s : ByteArray) : Option (List Sg) := if 60 < s.size then none else match scanL s (s.size + 1) 0 false [] with
  | none => none
  | some (l, esc) => if esc = true then none else some l
def vsg (l : List Sg) : List Value := (l.map fun s => [Value.int .i32 s.p, Value.bool s.esc]).flatten
theorem vsg_get (l : List Sg) : ∀ (j : Nat) (s : Sg), l[j]? = some s → (vsg l)[j * 2]? = some (.int .i32 s.p) ∧ (vsg l)[j * 2 + 1]? = some (.bool s.esc) := by
  induction l with
  | nil => intro j s h; simp at h
  | cons x t ih =>
    intro j s h
    have e : vsg (x :: t) = .int .i32 x.p :: .bool x.esc :: vsg t := rfl
    cases j with
    | zero => simp at h; subst h; rw [e]; exact ⟨rfl, rfl⟩
    | succ j =>
      have := ih j s (by simpa using h)
      rw [e, show (j + 1) * 2 = j * 2 + 2 from by omega]
      exact this
theorem sgInfo : ∃ i0 z, Try.prog.info? 90 = some i0 ∧ i0.zero = some z ∧ i0.size = 2 ∧ i0.bytes = 8 ∧ z.cells.size = 2 := by
  have h : (Try.prog.info? 90).map (fun i => (i.zero, i.size, i.bytes)) = some (some (.agg #[.int .i32 0, .bool false]), 2, 8) := by kernel_rfl
  cases hi : Try.prog.info? 90 with
  | none => rw [hi] at h; cases h
  | some i0 =>
    rw [hi] at h
    simp only [Option.map_some, Option.some.injEq, Prod.mk.injEq] at h
    exact ⟨i0, _, rfl, h.1, h.2.1, h.2.2, rfl⟩
theorem own_belowS {w w' : World} {base e size n : Nat} {v : Value} {xs : List Value} (h : w.ownsRow base e size v n xs) (hb : Below w.heap.size w w') : w'.ownsRow base e size v n xs := by
  obtain ⟨hl, h1⟩ := h
  refine ⟨hl, ?_⟩
  rcases h1 with h1 | ⟨g, cap, cur, hv, hg, hh, q⟩
  · exact .inl h1
  · refine .inr ⟨g, cap, cur, hv, hg, ?_, q⟩
    rw [hb.block g (Array.getElem?_eq_some_iff.1 hh).1]; exact hh
theorem own_iter {w : World} {base e size n k : Nat} {v : Value} {xs : List Value} {s : ByteArray} {pos : Nat} (h : w.ownsRow base e size v n xs) (hk : w.heap[k]? = some (.stringIter s pos)) (pos' : Nat) : (w.iterAt k s pos').ownsRow base e size v n xs := by
  obtain ⟨hl, h1⟩ := h
  refine ⟨hl, ?_⟩
  rcases h1 with h1 | ⟨g, cap, cur, hv, hg, hh, q⟩
  · exact .inl h1
  · refine .inr ⟨g, cap, cur, hv, hg, ?_, q⟩
    rw [Lib.iterAt_other _ _ _ _ _ (fun e => by rw [e, hk] at hh; cases hh)]; exact hh
/-- What a pattern's signs are in memory. -/
def ScanPost (s : ByteArray) (w : World) (e : Ending) (w' : World) : Prop := Below w.heap.size w w' ∧ match scanS s with
  | none => ∃ v, e = .returned (.tuple #[v, .bool false])
  | some l => ∃ v, e = .returned (.tuple #[v, .bool true]) ∧ w'.ownsRow w.heap.size 90 2 v l.length (vsg l) ∧ l.length ≤ 60 ∧ ∀ s ∈ l, SgOK s

set_option maxHeartbeats 4000000 in
set_option maxRecDepth 100000 in
theorem scan_any (s : ByteArray) (w : World) (hs : s.size ≤ maxLen) :
    Calls Try.prog 40 #[.string s] w (ScanPost s w) := by
  unfold maxLen at hs
  by_cases h60 : 60 < s.size
  · have h2 : (60 : Int) < (s.size : Int) := by omega
    go_enter Try.func40, Try.ntmps40
    go_wp2
    exact bodyPost_ret (v := .tuple #[.slice none 0 0, .bool false]) (by simp [results, Try.results40, go_sem]) rfl ⟨Below.refl _ _, by unfold scanS; rw [if_pos h60]; exact ⟨_, rfl⟩⟩
  · have h2 : ¬ (60 : Int) < (s.size : Int) := by omega
    obtain ⟨i0, z, hi, hz, hzs, hby, hzc⟩ := sgInfo
    obtain ⟨P, hP⟩ : ∃ P, P = scanL s (s.size + 1) 0 false [] := ⟨_, rfl⟩
    have HPP := hidn hP
    clear hP
    go_enter Try.func40, Try.ntmps40
    go_wp2
    go_loopw [4, 5] (fun sv ev wr => ∃ (pos fuel : Nat) (acc : List Sg) (esc : Bool) (v : Value), sv = v ∧ ev = .bool esc ∧ wr.ownsRow w.heap.size 90 2 v acc.length (vsg acc) ∧ wr.heap[w.heap.size]? = some (.stringIter s pos) ∧ Below w.heap.size w wr ∧ (s.size < pos + fuel ∧ 1 ≤ fuel) ∧ acc.length ≤ pos ∧ pos ≤ s.size + 4 ∧ (pos ≤ s.size ∨ acc.length ≤ s.size) ∧ acc.length ≤ s.size ∧ (∀ x ∈ acc, SgOK x) ∧ Hid (P = scanL s fuel pos esc acc)) (fun _ _ wr => s.size - wr.iterPos w.heap.size)
    case atStart =>
      refine ⟨0, s.size + 1, [], false, _, rfl, rfl, World.ownsRow_nil _ _ _ _, ?_, (Below.refl _ w).alloc (Nat.le_refl _) _, ⟨by omega, by omega⟩, by simp, by omega, Or.inl (by omega), by simp, by simp, HPP⟩
      have := World.iter_heap w s 0
      simpa using this
    case round =>
      obtain ⟨pos, fuel, acc, esc, v, rfl, rfl, hown, hit, hbw, ⟨hfu, hfu1⟩, hap, hpos, _, has, hsg, HPk⟩ := hrel
      have hsz : w.heap.size < wr.heap.size := (Array.getElem?_eq_some_iff.1 hit).1
      by_cases hp : pos < s.size
      · have hnx : ∀ ty, (Instr.next (.pointer (some ⟨w.heap.size, 0, none⟩)) true ty).run Try.prog wr = _ := fun ty => Lib.run_next_any_at wr w.heap.size s pos ty hit hp
        have hwd := width_pos s pos hp
        have hwd4 : (Utf8.decode s pos).2 ≤ 4 := by
          unfold Utf8.decode
          simp only [Utf8.runeError]
          repeat' split
          all_goals simp
        have hlt := decode_lt s pos
        obtain ⟨f, rfl⟩ : ∃ f, fuel = f + 1 := ⟨fuel - 1, by omega⟩
        have hit2 := Lib.iterAt_heap wr w.heap.size s pos (pos + (Utf8.decode s pos).2) hit
        have hbw2 := Lib.below_iterAt hbw (k := w.heap.size) (by omega) s (pos + (Utf8.decode s pos).2)
        have own2 := own_iter hown hit (pos + (Utf8.decode s pos).2)
        have hsz2 : w.heap.size < (wr.iterAt w.heap.size s (pos + (Utf8.decode s pos).2)).heap.size := by rw [Lib.iterAt_size]; omega
        have hme : ∀ W : World, W.heap[w.heap.size]? = some (.stringIter s (pos + (Utf8.decode s pos).2)) → s.size - W.iterPos w.heap.size < s.size - wr.iterPos w.heap.size := by
          intro W h; simp only [World.iterPos, h, hit]; omega
        have HME := hidn hme
        clear hme hown
        generalize hW : wr.iterAt w.heap.size s (pos + (Utf8.decode s pos).2) = wi at *
        have HW := hidn hW
        clear hW
        have HS : Hid (P = if (Utf8.decode s pos).1 = 65533 then none else if (Utf8.decode s pos).1 = 92 ∧ esc = false then scanL s f (pos + (Utf8.decode s pos).2) true acc else scanL s f (pos + (Utf8.decode s pos).2) false (acc ++ [⟨((Utf8.decode s pos).1 : Int), esc⟩])) := hidn (by rw [HPk.out]; simp only [scanL]; rw [if_pos hp])
        generalize hR : (Utf8.decode s pos).1 = rn at *
        have HR := hidn hR
        clear hR HPk
        obtain ⟨q, hq⟩ : ∃ q, q = pos + (Utf8.decode s pos).2 := ⟨_, rfl⟩
        rw [← hq] at hit2 HS HME
        have hq1 : pos + 1 ≤ q := by omega
        have hq2 : q ≤ s.size + 4 := by omega
        clear hq
        by_cases c1 : rn = 65533
        · have g1 : ((rn : Int) == 65533) = true := by simp; omega
          have hPv : Hid (P = none) := hidn (by rw [HS.out, if_pos c1])
          go_wp2
          exact bodyPost_ret (v := .tuple #[.slice none 0 0, .bool false]) (by simp [results, Try.results40, go_sem]) rfl ⟨hbw2, by unfold scanS; rw [if_neg h60, ← HPP.out, hPv.out]; exact ⟨_, rfl⟩⟩
        · have g1 : ((rn : Int) == 65533) = false := by simp; omega
          by_cases c2 : rn = 92
          · have g2 : ((rn : Int) == 92) = true := by simp; omega
            cases esc with
            | false =>
              have hPv : Hid (P = scanL s f q true acc) := hidn (by rw [HS.out, if_neg c1, if_pos ⟨c2, rfl⟩])
              go_wp2
              exact ⟨⟨q, f, acc, true, _, rfl, rfl, own2, hit2, hbw2, ⟨by omega, by omega⟩, by omega, hq2, Or.inr has, has, hsg, hPv⟩, HME.out _ hit2⟩
            | true =>
              have hPv : Hid (P = scanL s f q false (acc ++ [⟨(rn : Int), true⟩])) := hidn (by rw [HS.out, if_neg c1, if_neg (fun h => by cases h.2)])
              clear c2
              obtain ⟨sa, sc, hsv⟩ : ∃ sa sc, u4 = .slice sa acc.length sc := by
                rcases own2.2 with ⟨h1, h2⟩ | ⟨g, cap, cur, h1, _⟩
                · exact ⟨none, 0, by rw [h1, h2]⟩
                · exact ⟨_, _, h1⟩
              subst hsv
              have own3 := own_belowS own2 ((Below.refl _ wi).alloc (Nat.le_refl _) (.cells #[.int .i32 (rn : Int), .bool true] 90))
              have HO : Hid (acc.length + 1 ≤ s.size) := hidn (by omega)
              clear own2
              go_wp2_with (at_builtin; refine wpList_append_own _ rfl _ _ 78 rfl w.heap.size 90 i0 z 2 8 Try.underlying78 hi hz hzs hby hzc (by decide) _ acc.length (vsg acc) rfl own3 ⟨wi.heap.size, 0, none⟩ 1 1 [.int .i32 (rn : Int), .bool true] rfl rfl ?c1 ?c2 ?c3 ?c4 ?c5 ?_)
              case c1 =>
                intro j u hj
                match j, hj with
                | 0, hj => simp at hj; subst hj; simp [Addr.add]
                | 1, hj => simp at hj; subst hj; simp [Addr.add]
              case c2 =>
                intro u hu
                simp at hu
                rcases hu with rfl | rfl <;> rfl
              case c3 => unfold maxLen; omega
              case c4 => omega
              case c5 => simp; omega
              intro v' w3 own4 hgrow3 _
              have e9 : vsg (acc ++ [⟨(rn : Int), true⟩]) = vsg acc ++ [.int .i32 (rn : Int), .bool true] := by simp [vsg]
              have B3 : Below w.heap.size w w3 := (hbw2.alloc (by omega) _).grown hgrow3 (by simp; omega) (fun j hj => (own3.lt j hj).1)
              have hit3 : w3.heap[w.heap.size]? = some (.stringIter s q) := by
                rw [hgrow3.block _ (by simp; omega) (fun e => by
                  rcases own3.2 with ⟨h1, _⟩ | ⟨g, cap, cur, h1, _, hh, _⟩
                  · rw [h1] at e; cases e
                  · rw [h1] at e
                    simp only [Value.ownBlock, Option.some.injEq] at e
                    rw [← e, Below.heap_alloc _ _ _ (by omega), hit2] at hh
                    cases hh)]
                rw [Below.heap_alloc _ _ _ (by omega)]; exact hit2
              go_wp2
              exact ⟨⟨q, f, acc ++ [⟨(rn : Int), true⟩], false, _, rfl, rfl, by rw [e9]; simpa using own4, hit3, B3, ⟨by omega, by omega⟩, by simp; omega, hq2, Or.inr (by simpa using HO.out), by simpa using HO.out, fun x hx => by
                simp only [List.mem_append, List.mem_singleton] at hx
                rcases hx with hx | rfl
                · exact hsg x hx
                · exact ⟨by simp only; omega, by simp only; omega, by simp only; omega⟩, hPv⟩, HME.out _ hit3⟩
          · have g2 : ((rn : Int) == 92) = false := by simp; omega
            have hPv : Hid (P = scanL s f q false (acc ++ [⟨(rn : Int), esc⟩])) := hidn (by rw [HS.out, if_neg c1, if_neg (fun h => c2 h.1)])
            clear c2
            obtain ⟨sa, sc, hsv⟩ : ∃ sa sc, u4 = .slice sa acc.length sc := by
              rcases own2.2 with ⟨h1, h2⟩ | ⟨g, cap, cur, h1, _⟩
              · exact ⟨none, 0, by rw [h1, h2]⟩
              · exact ⟨_, _, h1⟩
            subst hsv
            have own3 := own_belowS own2 ((Below.refl _ wi).alloc (Nat.le_refl _) (.cells #[.int .i32 (rn : Int), .bool esc] 90))
            have HO : Hid (acc.length + 1 ≤ s.size) := hidn (by omega)
            clear own2
            go_wp2_with (at_builtin; refine wpList_append_own _ rfl _ _ 78 rfl w.heap.size 90 i0 z 2 8 Try.underlying78 hi hz hzs hby hzc (by decide) _ acc.length (vsg acc) rfl own3 ⟨wi.heap.size, 0, none⟩ 1 1 [.int .i32 (rn : Int), .bool esc] rfl rfl ?c1 ?c2 ?c3 ?c4 ?c5 ?_)
            case c1 =>
              intro j u hj
              match j, hj with
              | 0, hj => simp at hj; subst hj; simp [Addr.add]
              | 1, hj => simp at hj; subst hj; simp [Addr.add]
            case c2 =>
              intro u hu
              simp at hu
              rcases hu with rfl | rfl <;> rfl
            case c3 => unfold maxLen; omega
            case c4 => omega
            case c5 => simp; omega
            intro v' w3 own4 hgrow3 _
            have e9 : vsg (acc ++ [⟨(rn : Int), esc⟩]) = vsg acc ++ [.int .i32 (rn : Int), .bool esc] := by simp [vsg]
            have B3 : Below w.heap.size w w3 := (hbw2.alloc (by omega) _).grown hgrow3 (by simp; omega) (fun j hj => (own3.lt j hj).1)
            have hit3 : w3.heap[w.heap.size]? = some (.stringIter s q) := by
              rw [hgrow3.block _ (by simp; omega) (fun e => by
                rcases own3.2 with ⟨h1, _⟩ | ⟨g, cap, cur, h1, _, hh, _⟩
                · rw [h1] at e; cases e
                · rw [h1] at e
                  simp only [Value.ownBlock, Option.some.injEq] at e
                  rw [← e, Below.heap_alloc _ _ _ (by omega), hit2] at hh
                  cases hh)]
              rw [Below.heap_alloc _ _ _ (by omega)]; exact hit2
            go_wp2
            exact ⟨⟨q, f, acc ++ [⟨(rn : Int), esc⟩], false, _, rfl, rfl, by rw [e9]; simpa using own4, hit3, B3, ⟨by omega, by omega⟩, by simp; omega, hq2, Or.inr (by simpa using HO.out), by simpa using HO.out, fun x hx => by
              simp only [List.mem_append, List.mem_singleton] at hx
              rcases hx with hx | rfl
              · exact hsg x hx
              · exact ⟨by simp only; omega, by simp only; omega, by simp only; omega⟩, hPv⟩, HME.out _ hit3⟩
      · have hnx : ∀ ty, (Instr.next (.pointer (some ⟨w.heap.size, 0, none⟩)) true ty).run Try.prog wr = _ := fun ty => Lib.run_next_end_at wr w.heap.size s pos ty hit hp
        have hPv : Hid (P = some (acc, esc)) := hidn (by
          rw [HPk.out]
          cases fuel with
          | zero => omega
          | succ f => simp only [scanL]; rw [if_neg hp])
        obtain ⟨nb, hnb⟩ : ∃ nb, nb = !esc := ⟨_, rfl⟩
        go_wp2
        refine bodyPost_ret (v := .tuple #[u4, .bool (!esc)]) (by simp [results, Try.results40, go_sem]) rfl ⟨hbw, ?_⟩
        unfold scanS
        rw [if_neg h60, ← HPP.out, hPv.out]
        cases esc with
        | true => exact ⟨_, rfl⟩
        | false => exact ⟨_, rfl, hown, by omega, hsg⟩
end Go.Proofs.Ytdgkjiiegmnjfaa
