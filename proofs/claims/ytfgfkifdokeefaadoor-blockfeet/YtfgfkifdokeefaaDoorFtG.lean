/- The document's Decode of a footer. -/
import Derived.Test.YtfgfkifdokeefaaDoorFtF
namespace Go.Proofs.YtfgfkifdokeefaaDoor
open Go.RowKit Go.Joins
open Cd (rdy_unit)
set_option linter.unusedVariables false

def rAt (zs : List Nat) (j : Nat) : Int := if j < 7 then mN zs j else mN (zs.drop 57) (j - 7)

def rW (zs : List Nat) (c : Nat) : List Int := (List.range c).map (rAt zs)

theorem rW_succ (zs : List Nat) (c : Nat) : rW zs (c + 1) = rW zs c ++ [rAt zs c] := by simp [rW, List.range_succ]

theorem rW_length (zs : List Nat) (c : Nat) : (rW zs c).length = c := by simp [rW]

theorem rW_at (zs : List Nat) (c j : Nat) (h : j < c) : (rW zs c)[j]? = some (rAt zs j) := by
  unfold rW
  rw [List.getElem?_map, List.getElem?_range h]
  rfl

/-- Where the reading stands: so many words read, and the place. -/
def rPl (L c p : Nat) : Prop := (c ≤ 7 ∧ p = 8 * c) ∨ (7 ≤ c ∧ p = 57 + 8 * (c - 7) ∧ p ≤ 57 + L)

theorem rAt_word {zs : List Nat} {L z c p : Nat} (h : rPl L c p) (hp : p < 57 + L) (h6 : p ≠ 56) : IntKind.i64.wrap ((getB 0 ((zs.drop p).take 8) : Nat) : Int) = rAt zs c := by
  unfold rAt
  rcases h with ⟨h1, rfl⟩ | ⟨h1, rfl, _⟩
  · rw [if_pos (by omega), mN, Nat.mul_comm c 8]
  · rw [if_neg (by omega), mN, List.drop_drop, Nat.mul_comm (c - 7) 8]

theorem rdec_no (w : World) (a : Option Addr) (len cap : Nat) (zs : List Nat) (hB : Bs w a len zs) (hc : len ≤ cap) (hno : ¬ (57 ≤ len ∧ len = 57 + 8 * ftN zs)) : Calls Tryd.prog 7 #[.slice a len cap] w (DecNo w) := by
  have hm := hB.2.1
  unfold maxLen at hm
  by_cases h57 : len < 57
  · have h1 : (len : Int) < 57 := by omega
    clear hB hno
    go_enter Tryd.func7, Tryd.ntmps7
    go_wp2_with fail
    exact bodyPost_ret (v := .tuple #[.agg #[.int .i64 0, .int .i64 0, .int .i64 0, .int .i64 0, .int .i64 0, .int .i64 0, .int .i64 0, .slice none 0 0], .int .i64 5]) (bk_rowtmp rfl _ _ w.heap.size 24 #[.int .i64 0, .int .i64 0, .int .i64 0, .int .i64 0, .int .i64 0, .int .i64 0, .int .i64 0, .slice none 0 0] (0, 0) _ rfl (heap_alloc_new _ _) Tryd.underlying24 rfl (by kernel_rfl) _ rfl) rfl ⟨rfl, (Below.refl _ w).alloc (Nat.le_refl _) _⟩
  · have h1 : ¬ (len : Int) < 57 := by omega
    obtain ⟨b, off, rfl, hb, hcc⟩ := hB.pos (by omega)
    have c56 := hcc 56 (by omega)
    have hz : zs.getD 56 0 < 256 := by
      rw [List.getD_eq_getElem?_getD, List.getElem?_eq_getElem (by rw [hB.1]; omega)]
      exact hB.2.2.1 _ (List.getElem_mem _)
    obtain ⟨z, hzz⟩ : ∃ z, z = zs.getD 56 0 := ⟨_, rfl⟩
    have hne : len ≠ 57 + 8 * z := fun e => hno ⟨by omega, by rw [ftN, ← hzz]; exact e⟩
    rw [← hzz] at c56 hz
    have hw1 : IntKind.i64.wrap (z : Int) = (z : Int) := by rw [IntKind.wrap_i64]; omega
    have h56l : (56 : Int) < (len : Int) := by omega
    have h56n : 56 < len := by omega
    have hne2 : ((len : Int) != 57 + 8 * (z : Int)) = true := by simp; omega
    clear hzz hB hno hcc hne
    have c56' : (w.alloc (.cells #[.int .i64 0, .int .i64 0, .int .i64 0, .int .i64 0, .int .i64 0, .int .i64 0, .int .i64 0, .slice none 0 0] 24)).cell? ⟨b, off + 56, none⟩ = some (.int .u8 (z : Int)) := (ft_below1 w _).cell (p := ⟨b, off + 56, none⟩) hb |>.trans c56
    go_enter Tryd.func7, Tryd.ntmps7
    go_wp2_with fail
    exact bodyPost_ret (v := .tuple #[.agg #[.int .i64 0, .int .i64 0, .int .i64 0, .int .i64 0, .int .i64 0, .int .i64 0, .int .i64 0, .slice none 0 0], .int .i64 5]) (bk_rowtmp rfl _ _ w.heap.size 24 #[.int .i64 0, .int .i64 0, .int .i64 0, .int .i64 0, .int .i64 0, .int .i64 0, .int .i64 0, .slice none 0 0] (0, 0) _ rfl (heap_alloc_new _ _) Tryd.underlying24 rfl (by kernel_rfl) _ rfl) rfl ⟨rfl, (Below.refl _ w).alloc (Nat.le_refl _) _⟩

theorem ft_bs0 {o : Oper} {a : Act} {w : World} (ho : o.op = Op.buildSlice 22 0 #[]) : (execOp a.eval o).run Tryd.prog w = .ok (.value (.slice (some ⟨w.heap.size, 0, none⟩) 0 0)) (w.alloc (.cells #[] 3)) := by
  have h : (Instr.buildSlice 22 0 #[]).run Tryd.prog w = .ok (.slice (some ⟨w.heap.size, 0, none⟩) 0 0) (w.alloc (.cells #[] 3)) := by kernel_rfl
  simp [execOp, ho, h, Result.andThen]

theorem ft_empty {W : World} {b e size base : Nat} (h : W.heap[b]? = some (.cells #[] e (0, 0))) (hb : base ≤ b) : W.ownsRow base e size (.slice (some ⟨b, 0, none⟩) 0 0) 0 [] :=
  ⟨by simp, .inr ⟨b, 0, #[], rfl, hb, h, by omega, by simp, by simp, by simp⟩⟩

theorem ft_app3 {o : Oper} {a : Act} {w w' : World} {t u : TypeId} {x y : Operand} {vx vy v : Value} (ho : o.op = .call { callee := .builtin .append, args := #[x, y], argTypes := #[t, u] }) (hx : a.eval x = vx) (hy : a.eval y = vy) (hr : (Builtin.append_ #[t, u] o.type #[vx, vy]).run Tryd.prog w = .ok v w') : (execOp a.eval o).run Tryd.prog w = .ok (.value v) w' := by
  unfold execOp
  simp only [ho, resolve, invoke, builtin, Sem.run_bind, Sem.run_pure, Result.andThen_ok, List.map_toArray, List.map_cons, List.map_nil, hx, hy, hr]

theorem vi_r7 (zs : List Nat) (z j : Nat) (h : j < 7) : (vi (rW zs (7 + z)))[j]? = some (.int .i64 (mN zs j)) := by
  unfold vi
  rw [List.getElem?_map, rW_at _ _ _ (by omega)]
  simp [rAt, h]

theorem vi_rW7 (zs : List Nat) (z j : Nat) : (vi (rW zs (7 + z)))[7 + j]? = (vi (mNs (zs.drop 57) z))[j]? := by
  unfold vi mNs
  by_cases h : j < z
  · rw [List.getElem?_map, rW_at _ _ _ (by omega)]
    simp [rAt, h, show ¬ 7 + j < 7 by omega]
  · rw [List.getElem?_eq_none (by simp [rW_length]; omega), List.getElem?_eq_none (by simp; omega)]

theorem ft_ne {w : World} {base n h : Nat} {v : Value} {xs : List Value} {cs : Array Value} (ho : w.ownsRow base 3 1 v n xs) (hh : w.heap[h]? = some (.cells cs 24 (0, 0))) : ∀ g, v.ownBlock = some g → g ≠ h := by
  intro g hg e
  subst e
  rcases ho.2 with ⟨h1, _⟩ | ⟨g', cap, cur, rfl, _, h2, _⟩
  · rw [h1] at hg
    cases hg
  · cases hg
    rw [hh] at h2
    injection h2 with h2
    injection h2 with _ h3 _
    exact absurd h3 (by decide)

set_option maxRecDepth 100000 in
set_option maxHeartbeats 8000000 in
theorem rdec_any (w : World) (b off len cap : Nat) (zs : List Nat) (hB : Bs w (some ⟨b, off, none⟩) len zs) (hc : len ≤ cap) (h57 : 57 ≤ len) (hN : len = 57 + 8 * ftN zs) : Calls Tryd.prog 7 #[.slice (some ⟨b, off, none⟩) len cap] w (DecAny w zs) := by
  obtain ⟨i0, z0, hi, hz0, hz1, hz2, hzc⟩ := ftInt
  obtain ⟨L, rfl⟩ : ∃ L, len = 57 + L := ⟨len - 57, by omega⟩
  have hm := hB.2.1
  unfold maxLen at hm
  have h1 : ¬ (57 + (L : Int)) < 57 := by omega
  have hcc := hB.2.2.2.2 _ rfl
  have c56 := hcc 56 (by omega)
  rw [add_none] at c56
  have hbw := block_lt_of_cell c56
  have hz : ftN zs < 256 := by
    unfold ftN
    rw [List.getD_eq_getElem?_getD, List.getElem?_eq_getElem (by rw [hB.1]; omega)]
    exact hB.2.2.1 _ (List.getElem_mem _)
  obtain ⟨z, hzz⟩ : ∃ z, z = ftN zs := ⟨_, rfl⟩
  have c56z : w.cell? ⟨b, off + 56, none⟩ = some (.int .u8 (z : Int)) := by rw [hzz]; exact c56
  rw [← hzz] at hz hN
  have hw1 : IntKind.i64.wrap (z : Int) = (z : Int) := by rw [IntKind.wrap_i64]; omega
  have h56l : (56 : Int) < (57 + (L : Int)) := by omega
  have h56n : 56 < 57 + L := by omega
  have hne2 : ((57 + (L : Int)) != 57 + 8 * (z : Int)) = false := by simp; omega
  obtain ⟨wA, hwA⟩ : ∃ wA, wA = w.alloc (.cells #[.int .i64 0, .int .i64 0, .int .i64 0, .int .i64 0, .int .i64 0, .int .i64 0, .int .i64 0, .slice none 0 0] 24) := ⟨_, rfl⟩
  have bA : Below w.heap.size w wA := by rw [hwA]; exact ft_below1 w _
  have sA : wA.heap.size = w.heap.size + 1 := by rw [hwA, World.size_alloc]
  have c56' : (w.alloc (.cells #[.int .i64 0, .int .i64 0, .int .i64 0, .int .i64 0, .int .i64 0, .int .i64 0, .int .i64 0, .slice none 0 0] 24)).cell? ⟨b, off + 56, none⟩ = some (.int .u8 (z : Int)) := ((ft_below1 w _).cell (p := ⟨b, off + 56, none⟩) hbw).trans c56z
  have qA : wA.heap[w.heap.size]? = some (.cells #[.int .i64 0, .int .i64 0, .int .i64 0, .int .i64 0, .int .i64 0, .int .i64 0, .int .i64 0, .slice none 0 0] 24 (0, 0)) := by rw [hwA]; exact heap_alloc_new w _
  have HBs := hidn hB
  have HZZ := hidn hzz
  have HL : Hid (L = 8 * z) := hidn (by omega)
  have HWA := hidn hwA
  have HQA := hidn qA
  have HBA := hidn bA
  have HSA := hidn sA
  have HCP := hidn hc
  have I0 : Hid (∃ c, rPl L c 0 ∧ wA.ownsRow wA.heap.size 3 1 (.slice none 0 0) c (vi (rW zs c))) := hidn ⟨0, .inl ⟨by omega, rfl⟩, World.ownsRow_nil _ _ _ _⟩
  clear c56 c56z hcc hbw hB hzz hN hwA qA bA sA
  go_enter Tryd.func7, Tryd.ntmps7
  go_wp2_with fail
  rw [← HWA.out]
  go_loopw [4, 5] (fun lv pv wr => ∃ p : Nat, p ≤ 57 + L ∧ pv = .int .i64 (p : Int) ∧ Hid (∃ c, rPl L c p ∧ wr.ownsRow wA.heap.size 3 1 lv c (vi (rW zs c))) ∧ Hid (Below wA.heap.size wA wr)) (fun _ pv _ => 57 + L - (intOf pv).toNat)
  case atStart => exact ⟨0, Nat.zero_le _, rfl, I0, hidn (Below.refl _ _)⟩
  case round =>
    clear I0 c56'
    obtain ⟨p, hp, rfl, HI, HB⟩ := hrel
    by_cases hlt : p < 57 + L
    · have hlt2 : (p : Int) < 57 + (L : Int) := by omega
      by_cases h6 : p = 56
      · subst h6
        have HZ : Hid (∃ c, rPl L c 57 ∧ wr.ownsRow wA.heap.size 3 1 u4 c (vi (rW zs c))) := hidn (by
          obtain ⟨c, hpl, ho⟩ := HI.out
          refine ⟨c, ?_, ho⟩
          rcases hpl with ⟨h1, h2⟩ | ⟨h1, h2, h3⟩
          · exact .inr ⟨by omega, by omega, by omega⟩
          · omega)
        clear HI
        go_wp2_with fail
        exact ⟨⟨57, by omega, by simp, HZ, HB⟩, by simp [intOf]; omega⟩
      · obtain ⟨c, hpl, ho⟩ := HI.out
        have h6i : ((p : Int) == 56) = false := by simp; omega
        have hbw : wA.heap.size ≤ wr.heap.size := HB.out.size
        have hge : 8 ≤ 57 + L - p := by
          have := HL.out
          rcases hpl with ⟨h1, h2⟩ | ⟨h1, h2, h3⟩ <;> omega
        have hcn : ¬ cap = p := by have := HCP.out; omega
        have hpc : (p : Int) ≤ (cap : Int) := by have := HCP.out; omega
        have hpl2 : (p : Int) ≤ 57 + (L : Int) := by omega
        have HIN := hidn (refInt8 w wr (some ⟨b, off + p, none⟩) (57 + L - p) (cap - p) (zs.drop p) (HBs.out.from p (by omega)) (HBA.out.trans (HB.out.mono HBA.out.size)) hge (by have := HCP.out; omega))
        obtain ⟨x, hx⟩ : ∃ x, x = IntKind.i64.wrap ((getB 0 ((zs.drop p).take 8) : Nat) : Int) := ⟨_, rfl⟩
        have HX : Hid (x = rAt zs c) := hidn (by rw [hx]; exact rAt_word (z := z) hpl hlt h6)
        rw [← hx] at HIN
        have HPL := hidn hpl
        have HO := hidn ho
        have hc7 : c ≤ 7 + z := by have := HL.out; rcases hpl with ⟨h1, h2⟩ | ⟨h1, h2, h3⟩ <;> omega
        have HC7 := hidn hc7
        have HBW := hidn hbw
        obtain ⟨va, vc, e9⟩ : ∃ va vc, u4 = Value.slice va c vc := by
          rcases ho.2 with ⟨h1, h2⟩ | ⟨g, cp, cur, h1, _⟩
          · exact ⟨none, 0, by rw [h1, h2]⟩
          · exact ⟨_, _, h1⟩
        clear hx hpl ho hc7 HI hbw hge
        go_wp2_with fail
        refine HIN.out.mono ?_
        clear HIN
        rintro e w2 ⟨a', c', rfl, _, _, b2⟩
        have hb2 : Below wA.heap.size wA w2 := HB.out.trans (b2.mono HBW.out)
        have ho2 := ft_below (B := 0) HO.out b2
        have ba : Below w2.heap.size w2 (w2.alloc (.cells #[.int .i64 x] 3)) := (Below.refl _ _).alloc (Nat.le_refl _) _
        have hO1 := ft_below (B := 0) ho2 ba
        have hbw2 : wA.heap.size ≤ w2.heap.size := hb2.size
        obtain ⟨v3, w3, hrun, hown3, hgr3⟩ := appAny (w2.alloc (.cells #[.int .i64 x] 3)) wA.heap.size 22 22 3 i0 z0 1 8 Tryd.underlying22 hi hz0 hz1 hz2 hzc (by decide) u4 c (vi (rW zs c)) hO1 (Nat.le_trans hbw2 ba.size) (some ⟨w2.heap.size, 0, none⟩) 1 1 [.int .i64 x] rfl (fun e => by cases e) (fun y hy j u hu => by
          cases hy
          rw [add_none, Nat.zero_add, cell_of_row _ _ _ _ _ _ (heap_alloc_new w2 _)]
          simpa using hu) (fun u hu => by obtain rfl := List.mem_singleton.1 hu; rfl) (by have := HC7.out; unfold maxLen; omega) (by have := HC7.out; omega)
        have HB3 : Hid (Below wA.heap.size wA w3) := hidn ((hb2.trans (ba.mono hbw2)).grown hgr3 (Nat.le_trans hbw2 ba.size) (fun k hk => (hO1.lt k hk).1))
        have HZ : Hid (∃ c, rPl L c (p + 8) ∧ w3.ownsRow wA.heap.size 3 1 v3 c (vi (rW zs c))) := hidn ⟨c + 1, by
          have := HL.out
          rcases HPL.out with ⟨h1, h2⟩ | ⟨h1, h2, h3⟩
          · exact .inl ⟨by omega, by omega⟩
          · exact .inr ⟨by omega, by omega, by omega⟩, by
          rw [rW_succ, ← HX.out]
          unfold vi at hown3 ⊢
          rw [List.map_append]
          exact hown3⟩
        have hp8 : p + 8 ≤ 57 + L := by
          have := HL.out
          rcases HPL.out with ⟨h1, h2⟩ | ⟨h1, h2, h3⟩ <;> omega
        have HRUN := hidn hrun
        subst e9
        clear hrun hown3 hgr3 hO1 ba hb2 ho2 hbw2 b2 HO HX HPL HB
        go_wp2_with (at_builtin; refine wpList_app_runA rfl _ _ 22 22 rfl rfl _ _ _ rfl rfl HRUN.out ?_; clear HRUN)
        go_wp2_with fail
        exact ⟨⟨p + 8, hp8, by simp, HZ, HB3⟩, by simp [intOf]; omega⟩
    · have hlt2 : ¬ (p : Int) < 57 + (L : Int) := by omega
      obtain rfl : p = 57 + L := by omega
      obtain ⟨c, hpl, ho⟩ := HI.out
      obtain rfl : c = 7 + z := by
        have := HL.out
        rcases hpl with ⟨h1, h2⟩ | ⟨h1, h2, h3⟩ <;> omega
      obtain ⟨y0, hy0⟩ : ∃ y, y = mN zs 0 := ⟨_, rfl⟩
      obtain ⟨y1, hy1⟩ : ∃ y, y = mN zs 1 := ⟨_, rfl⟩
      obtain ⟨y2, hy2⟩ : ∃ y, y = mN zs 2 := ⟨_, rfl⟩
      obtain ⟨y3, hy3⟩ : ∃ y, y = mN zs 3 := ⟨_, rfl⟩
      obtain ⟨y4, hy4⟩ : ∃ y, y = mN zs 4 := ⟨_, rfl⟩
      obtain ⟨y5, hy5⟩ : ∃ y, y = mN zs 5 := ⟨_, rfl⟩
      obtain ⟨y6, hy6⟩ : ∃ y, y = mN zs 6 := ⟨_, rfl⟩
      have HY : Hid (y0 = mN zs 0 ∧ y1 = mN zs 1 ∧ y2 = mN zs 2 ∧ y3 = mN zs 3 ∧ y4 = mN zs 4 ∧ y5 = mN zs 5 ∧ y6 = mN zs 6) := hidn ⟨hy0, hy1, hy2, hy3, hy4, hy5, hy6⟩
      obtain ⟨g1, k1, hk1, rfl⟩ : ∃ g1 k1, 7 + z ≤ k1 ∧ u4 = .slice (some ⟨g1, 0, none⟩) (7 + z) k1 := by
        rcases ho.2 with ⟨_, h2⟩ | ⟨g, cp, cur, h1, _, _, hle, _⟩
        · omega
        · exact ⟨_, _, hle, h1⟩
      have lg := (ho.lt g1 rfl).2
      have r0 := ho.cells (g := g1) rfl 0 (.int .i64 y0) (by rw [hy0]; exact vi_r7 zs z 0 (by decide))
      have r1 := ho.cells (g := g1) rfl 1 (.int .i64 y1) (by rw [hy1]; exact vi_r7 zs z 1 (by decide))
      have r2 := ho.cells (g := g1) rfl 2 (.int .i64 y2) (by rw [hy2]; exact vi_r7 zs z 2 (by decide))
      have r3 := ho.cells (g := g1) rfl 3 (.int .i64 y3) (by rw [hy3]; exact vi_r7 zs z 3 (by decide))
      have r4 := ho.cells (g := g1) rfl 4 (.int .i64 y4) (by rw [hy4]; exact vi_r7 zs z 4 (by decide))
      have r5 := ho.cells (g := g1) rfl 5 (.int .i64 y5) (by rw [hy5]; exact vi_r7 zs z 5 (by decide))
      have r6 := ho.cells (g := g1) rfl 6 (.int .i64 y6) (by rw [hy6]; exact vi_r7 zs z 6 (by decide))
      rw [add_none] at r0 r1 r2 r3 r4 r5 r6
      have HNEW : Hid (∀ j u, (vi (mNs (zs.drop 57) z))[j]? = some u → wr.cell? ⟨g1, 7 + j, none⟩ = some u) := hidn (fun j u hu => by
        have q := ho.cells (g := g1) rfl (7 + j) u (by rw [vi_rW7]; exact hu)
        rw [add_none, Nat.zero_add] at q
        exact q)
      obtain ⟨ro, hro⟩ : ∃ ro, ro = (if k1 = 7 then 0 else 7) := ⟨_, rfl⟩
      have HK1 := hidn hk1
      have hcap : (7 + (z : Int)) ≤ (k1 : Int) := by omega
      have h7k : 7 ≤ k1 := by omega
      have h7c : (7 : Int) ≤ 7 + (z : Int) := by omega
      have h7z : 7 ≤ 7 + z := by omega
      have hlen7 : 7 + z - 7 = z := by omega
      have hi0 : (0 : Int) < 7 + (z : Int) := by omega
      have hn0 : 0 < 7 + z := by omega
      have hi1 : (1 : Int) < 7 + (z : Int) := by omega
      have hn1 : 1 < 7 + z := by omega
      have hi2 : (2 : Int) < 7 + (z : Int) := by omega
      have hn2 : 2 < 7 + z := by omega
      have hi3 : (3 : Int) < 7 + (z : Int) := by omega
      have hn3 : 3 < 7 + z := by omega
      have hi4 : (4 : Int) < 7 + (z : Int) := by omega
      have hn4 : 4 < 7 + z := by omega
      have hi5 : (5 : Int) < 7 + (z : Int) := by omega
      have hn5 : 5 < 7 + z := by omega
      have hi6 : (6 : Int) < 7 + (z : Int) := by omega
      have hn6 : 6 < 7 + z := by omega
      have HRO := hidn hro
      have HB1 : Hid (Below wA.heap.size wA wr) := HB
      have hq1 : wr.heap[w.heap.size]? = some (.cells #[.int .i64 0, .int .i64 0, .int .i64 0, .int .i64 0, .int .i64 0, .int .i64 0, .int .i64 0, .slice none 0 0] 24 (0, 0)) := (HB.out.block w.heap.size (by have := HSA.out; omega)).trans HQA.out
      have HQ1 := hidn hq1
      have HBW1 : Hid (Below w.heap.size w wr) := hidn (HBA.out.trans (HB.out.mono HBA.out.size))
      have HZR : Hid (z < 256) := hidn hz
      have HAPP : Hid (∀ (W : World) (b0 : Nat), Below wr.heap.size wr W → wr.heap.size ≤ b0 → W.heap[b0]? = some (.cells #[] 3 (0, 0)) → ∃ va vc w3, (Builtin.append_ #[22, 22] 22 #[.slice (some ⟨b0, 0, none⟩) 0 0, .slice (some ⟨g1, ro, none⟩) z (k1 - 7)]).run Tryd.prog W = .ok (.slice va z vc) w3 ∧ w3.ownsRow wr.heap.size 3 1 (.slice va z vc) z (vi (mNs (zs.drop 57) z)) ∧ W.grownBy w3 (some b0)) := hidn (fun W b0 hbl hb0 hrow => by
        obtain ⟨v3, w3, hrun, hown, hgr⟩ := appAny W wr.heap.size 22 22 3 i0 z0 1 8 Tryd.underlying22 hi hz0 hz1 hz2 hzc (by decide) (.slice (some ⟨b0, 0, none⟩) 0 0) 0 [] (ft_empty hrow hb0) hbl.size (some ⟨g1, ro, none⟩) z (k1 - 7) (vi (mNs (zs.drop 57) z)) (by simp [vi, mNs]) (fun e => by cases e) (fun y hy j u hu => by
          cases hy
          have hj : j < z := by
            have := (List.getElem?_eq_some_iff.1 hu).1
            simpa [vi, mNs] using this
          rw [HRO.out, if_neg (by have := HK1.out; omega), add_none]
          exact (hbl.cell (p := ⟨g1, 7 + j, none⟩) lg).trans (HNEW.out j u hu)) (fun u hu => by
          unfold vi at hu
          obtain ⟨q, _, rfl⟩ := List.mem_map.1 hu
          rfl) (by have := HZR.out; unfold maxLen; omega) (by have := HZR.out; omega)
        rw [Nat.zero_add, List.nil_append] at hown
        obtain ⟨va, vc, rfl, _⟩ := ils_own hown (mNs_length _ _) (by have := HZR.out; omega)
        exact ⟨va, vc, w3, hrun, hown, hgr⟩)
      have hd1 : Below wr.heap.size wr wr.drew := (Below.refl _ _).drew
      clear hy0 hy1 hy2 hy3 hy4 hy5 hy6 ho hpl hro hk1 hq1 HB HI hz
      go_wp2_with fail
      obtain ⟨wd, hwd⟩ : ∃ wd, wd = wr.drew := ⟨_, rfl⟩
      refine ft_cut (fun l w' => ∃ (h b0 : Nat) (va : Option Addr) (vc : Nat), l = [(47, .slice (some ⟨g1, 0, none⟩) (7 + z) k1), (48, .pointer (some ⟨g1, 0, none⟩)), (49, .int .i64 y0), (50, .slice (some ⟨g1, 0, none⟩) (7 + z) k1), (51, .pointer (some ⟨g1, 1, none⟩)), (52, .int .i64 y1), (53, .slice (some ⟨g1, 0, none⟩) (7 + z) k1), (54, .pointer (some ⟨g1, 2, none⟩)), (55, .int .i64 y2), (56, .slice (some ⟨g1, 0, none⟩) (7 + z) k1), (57, .pointer (some ⟨g1, 3, none⟩)), (58, .int .i64 y3), (59, .slice (some ⟨g1, 0, none⟩) (7 + z) k1), (60, .pointer (some ⟨g1, 4, none⟩)), (61, .int .i64 y4), (62, .slice (some ⟨g1, 0, none⟩) (7 + z) k1), (63, .pointer (some ⟨g1, 5, none⟩)), (64, .int .i64 y5), (65, .slice (some ⟨g1, 0, none⟩) (7 + z) k1), (66, .pointer (some ⟨g1, 6, none⟩)), (67, .int .i64 y6), (68, .slice (some ⟨b0, 0, none⟩) 0 0), (69, .slice (some ⟨g1, 0, none⟩) (7 + z) k1), (70, .slice (some ⟨g1, ro, none⟩) z (k1 - 7)), (71, .slice va z vc), (72, .agg #[.int .i64 y0, .int .i64 y1, .int .i64 y2, .int .i64 y3, .int .i64 y4, .int .i64 y5, .int .i64 y6, .slice va z vc]), (9, .pointer (some ⟨h, 0, none⟩))] ∧ w'.ownsRow wr.heap.size 3 1 (.slice va z vc) z (vi (mNs (zs.drop 57) z)) ∧ wr.heap.size ≤ h ∧ w'.heap[h]? = some (.cells #[.int .i64 y0, .int .i64 y1, .int .i64 y2, .int .i64 y3, .int .i64 y4, .int .i64 y5, .int .i64 y6, .slice va z vc] 24 (0, 0)) ∧ Below wr.heap.size wr w') ?_ ?_
      · skip
        refine wp_region_noPanic ?_
        refine wp_region_held_drew (S := fun W => Below wr.heap.size wr W) (by kernel_rfl) (hd1) (fun hHeld => ?_)
        rw [← hwd] at hHeld hd1 ⊢
        clear hwd
        refine drawn_take (i := 0) (v := .slice (some ⟨g1, 0, none⟩) (7 + z) k1) (some 47) rfl rfl (by kernel_rfl) (by kernel_rfl) (by kernel_rfl) (fun _ _ _ h => h) (Or.inl ⟨by kernel_rfl, fun wq hw => by go_simp⟩) hHeld ?_
        simp only [Act.put, List.setIfInBounds_toArray, List.set_cons_succ, List.set_cons_zero]
        refine drawn_take (i := 1) (v := .pointer (some ⟨g1, 0, none⟩)) (some 48) rfl rfl (by kernel_rfl) (by kernel_rfl) (by kernel_rfl) (fun _ _ _ h => h) (Or.inl ⟨by kernel_rfl, fun wq hw => by go_simp⟩) hHeld ?_
        simp only [Act.put, List.setIfInBounds_toArray, List.set_cons_succ, List.set_cons_zero]
        refine drawn_take (i := 2) (v := .int .i64 y0) (some 49) rfl rfl (by kernel_rfl) (by kernel_rfl) (by kernel_rfl) (fun _ _ _ h => h) (Or.inl ⟨by kernel_rfl, fun wq hw => by have q := (hw.cell (p := ⟨g1, 0 + 0, none⟩) lg).trans r0; go_simp⟩) hHeld ?_
        simp only [Act.put, List.setIfInBounds_toArray, List.set_cons_succ, List.set_cons_zero]
        refine drawn_take (i := 3) (v := .slice (some ⟨g1, 0, none⟩) (7 + z) k1) (some 50) rfl rfl (by kernel_rfl) (by kernel_rfl) (by kernel_rfl) (fun _ _ _ h => h) (Or.inl ⟨by kernel_rfl, fun wq hw => by go_simp⟩) hHeld ?_
        simp only [Act.put, List.setIfInBounds_toArray, List.set_cons_succ, List.set_cons_zero]
        refine drawn_take (i := 4) (v := .pointer (some ⟨g1, 1, none⟩)) (some 51) rfl rfl (by kernel_rfl) (by kernel_rfl) (by kernel_rfl) (fun _ _ _ h => h) (Or.inl ⟨by kernel_rfl, fun wq hw => by go_simp⟩) hHeld ?_
        simp only [Act.put, List.setIfInBounds_toArray, List.set_cons_succ, List.set_cons_zero]
        refine drawn_take (i := 5) (v := .int .i64 y1) (some 52) rfl rfl (by kernel_rfl) (by kernel_rfl) (by kernel_rfl) (fun _ _ _ h => h) (Or.inl ⟨by kernel_rfl, fun wq hw => by have q := (hw.cell (p := ⟨g1, 0 + 1, none⟩) lg).trans r1; go_simp⟩) hHeld ?_
        simp only [Act.put, List.setIfInBounds_toArray, List.set_cons_succ, List.set_cons_zero]
        refine drawn_take (i := 6) (v := .slice (some ⟨g1, 0, none⟩) (7 + z) k1) (some 53) rfl rfl (by kernel_rfl) (by kernel_rfl) (by kernel_rfl) (fun _ _ _ h => h) (Or.inl ⟨by kernel_rfl, fun wq hw => by go_simp⟩) hHeld ?_
        simp only [Act.put, List.setIfInBounds_toArray, List.set_cons_succ, List.set_cons_zero]
        refine drawn_take (i := 7) (v := .pointer (some ⟨g1, 2, none⟩)) (some 54) rfl rfl (by kernel_rfl) (by kernel_rfl) (by kernel_rfl) (fun _ _ _ h => h) (Or.inl ⟨by kernel_rfl, fun wq hw => by go_simp⟩) hHeld ?_
        simp only [Act.put, List.setIfInBounds_toArray, List.set_cons_succ, List.set_cons_zero]
        refine drawn_take (i := 8) (v := .int .i64 y2) (some 55) rfl rfl (by kernel_rfl) (by kernel_rfl) (by kernel_rfl) (fun _ _ _ h => h) (Or.inl ⟨by kernel_rfl, fun wq hw => by have q := (hw.cell (p := ⟨g1, 0 + 2, none⟩) lg).trans r2; go_simp⟩) hHeld ?_
        simp only [Act.put, List.setIfInBounds_toArray, List.set_cons_succ, List.set_cons_zero]
        refine drawn_take (i := 9) (v := .slice (some ⟨g1, 0, none⟩) (7 + z) k1) (some 56) rfl rfl (by kernel_rfl) (by kernel_rfl) (by kernel_rfl) (fun _ _ _ h => h) (Or.inl ⟨by kernel_rfl, fun wq hw => by go_simp⟩) hHeld ?_
        simp only [Act.put, List.setIfInBounds_toArray, List.set_cons_succ, List.set_cons_zero]
        refine drawn_take (i := 10) (v := .pointer (some ⟨g1, 3, none⟩)) (some 57) rfl rfl (by kernel_rfl) (by kernel_rfl) (by kernel_rfl) (fun _ _ _ h => h) (Or.inl ⟨by kernel_rfl, fun wq hw => by go_simp⟩) hHeld ?_
        simp only [Act.put, List.setIfInBounds_toArray, List.set_cons_succ, List.set_cons_zero]
        refine drawn_take (i := 11) (v := .int .i64 y3) (some 58) rfl rfl (by kernel_rfl) (by kernel_rfl) (by kernel_rfl) (fun _ _ _ h => h) (Or.inl ⟨by kernel_rfl, fun wq hw => by have q := (hw.cell (p := ⟨g1, 0 + 3, none⟩) lg).trans r3; go_simp⟩) hHeld ?_
        simp only [Act.put, List.setIfInBounds_toArray, List.set_cons_succ, List.set_cons_zero]
        refine drawn_take (i := 12) (v := .slice (some ⟨g1, 0, none⟩) (7 + z) k1) (some 59) rfl rfl (by kernel_rfl) (by kernel_rfl) (by kernel_rfl) (fun _ _ _ h => h) (Or.inl ⟨by kernel_rfl, fun wq hw => by go_simp⟩) hHeld ?_
        simp only [Act.put, List.setIfInBounds_toArray, List.set_cons_succ, List.set_cons_zero]
        refine drawn_take (i := 13) (v := .pointer (some ⟨g1, 4, none⟩)) (some 60) rfl rfl (by kernel_rfl) (by kernel_rfl) (by kernel_rfl) (fun _ _ _ h => h) (Or.inl ⟨by kernel_rfl, fun wq hw => by go_simp⟩) hHeld ?_
        simp only [Act.put, List.setIfInBounds_toArray, List.set_cons_succ, List.set_cons_zero]
        refine drawn_take (i := 14) (v := .int .i64 y4) (some 61) rfl rfl (by kernel_rfl) (by kernel_rfl) (by kernel_rfl) (fun _ _ _ h => h) (Or.inl ⟨by kernel_rfl, fun wq hw => by have q := (hw.cell (p := ⟨g1, 0 + 4, none⟩) lg).trans r4; go_simp⟩) hHeld ?_
        simp only [Act.put, List.setIfInBounds_toArray, List.set_cons_succ, List.set_cons_zero]
        refine drawn_take (i := 15) (v := .slice (some ⟨g1, 0, none⟩) (7 + z) k1) (some 62) rfl rfl (by kernel_rfl) (by kernel_rfl) (by kernel_rfl) (fun _ _ _ h => h) (Or.inl ⟨by kernel_rfl, fun wq hw => by go_simp⟩) hHeld ?_
        simp only [Act.put, List.setIfInBounds_toArray, List.set_cons_succ, List.set_cons_zero]
        refine drawn_take (i := 16) (v := .pointer (some ⟨g1, 5, none⟩)) (some 63) rfl rfl (by kernel_rfl) (by kernel_rfl) (by kernel_rfl) (fun _ _ _ h => h) (Or.inl ⟨by kernel_rfl, fun wq hw => by go_simp⟩) hHeld ?_
        simp only [Act.put, List.setIfInBounds_toArray, List.set_cons_succ, List.set_cons_zero]
        refine drawn_take (i := 17) (v := .int .i64 y5) (some 64) rfl rfl (by kernel_rfl) (by kernel_rfl) (by kernel_rfl) (fun _ _ _ h => h) (Or.inl ⟨by kernel_rfl, fun wq hw => by have q := (hw.cell (p := ⟨g1, 0 + 5, none⟩) lg).trans r5; go_simp⟩) hHeld ?_
        simp only [Act.put, List.setIfInBounds_toArray, List.set_cons_succ, List.set_cons_zero]
        refine drawn_take (i := 18) (v := .slice (some ⟨g1, 0, none⟩) (7 + z) k1) (some 65) rfl rfl (by kernel_rfl) (by kernel_rfl) (by kernel_rfl) (fun _ _ _ h => h) (Or.inl ⟨by kernel_rfl, fun wq hw => by go_simp⟩) hHeld ?_
        simp only [Act.put, List.setIfInBounds_toArray, List.set_cons_succ, List.set_cons_zero]
        refine drawn_take (i := 19) (v := .pointer (some ⟨g1, 6, none⟩)) (some 66) rfl rfl (by kernel_rfl) (by kernel_rfl) (by kernel_rfl) (fun _ _ _ h => h) (Or.inl ⟨by kernel_rfl, fun wq hw => by go_simp⟩) hHeld ?_
        simp only [Act.put, List.setIfInBounds_toArray, List.set_cons_succ, List.set_cons_zero]
        refine drawn_take (i := 20) (v := .int .i64 y6) (some 67) rfl rfl (by kernel_rfl) (by kernel_rfl) (by kernel_rfl) (fun _ _ _ h => h) (Or.inl ⟨by kernel_rfl, fun wq hw => by have q := (hw.cell (p := ⟨g1, 0 + 6, none⟩) lg).trans r6; go_simp⟩) hHeld ?_
        simp only [Act.put, List.setIfInBounds_toArray, List.set_cons_succ, List.set_cons_zero]
        refine drawn_take (i := 22) (v := .slice (some ⟨g1, 0, none⟩) (7 + z) k1) (some 69) rfl rfl (by kernel_rfl) (by kernel_rfl) (by kernel_rfl) (fun _ _ _ h => h) (Or.inl ⟨by kernel_rfl, fun wq hw => by go_simp⟩) hHeld ?_
        simp only [Act.put, List.setIfInBounds_toArray, List.set_cons_succ, List.set_cons_zero]
        refine drawn_take (i := 23) (v := .slice (some ⟨g1, ro, none⟩) z (k1 - 7)) (some 70) rfl rfl (by kernel_rfl) (by kernel_rfl) (by kernel_rfl) (fun _ _ _ h => h) (Or.inl ⟨by kernel_rfl, fun wq hw => by by_cases hcq : k1 = 7 <;> first | (rw [HRO.out, if_pos hcq]; go_simp; done) | (rw [HRO.out, if_neg hcq]; go_simp; done)⟩) hHeld ?_
        simp only [Act.put, List.setIfInBounds_toArray, List.set_cons_succ, List.set_cons_zero]
        have hHeldP := hHeld
        refine wpAnyH_ready (rs := [21, 26]) (by kernel_rfl) (by simp) ?_
        refine rdy_val (i := 21) rfl rfl (some 68) rfl (.slice (some ⟨wd.heap.size, 0, none⟩) 0 0) (wd.alloc (.cells #[] 3)) (ft_bs0 rfl) (hHeldP.alloc hHeldP.size _) (fun hHeld => ?_) ?_
        · simp only [Act.put, List.setIfInBounds_toArray, List.set_cons_succ, List.set_cons_zero]
          have hrb := heap_alloc_new wd (.cells #[] 3)
          have sb0 : wr.heap.size ≤ wd.heap.size := by first | exact hHeldP.size | exact hHeldQ.size
          obtain ⟨b0, eb0⟩ : ∃ q, q = wd.heap.size := ⟨_, rfl⟩
          have zwB := World.size_alloc wd (.cells #[] 3)
          obtain ⟨wB, ewB⟩ : ∃ q, q = wd.alloc (.cells #[] 3) := ⟨_, rfl⟩
          rw [← ewB] at hHeld zwB
          rw [← eb0, ← ewB] at hrb
          rw [← eb0] at zwB sb0
          rw [← eb0, ← ewB]
          have hHeldQ := hHeld
          refine wpAnyH_ready (rs := [24, 26]) (by kernel_rfl) (by simp) ?_
          obtain ⟨va, vc, w3, hrun3, hown3, hgr3⟩ := HAPP.out wB b0 hHeldQ sb0 hrb
          have b3 : Below wr.heap.size wr w3 := hHeldQ.grown hgr3 hHeldQ.size (fun k hk => by cases hk; exact sb0)
          refine rdy_val (i := 24) rfl rfl (some 71) rfl (.slice va z vc) w3 (ft_app3 (x := .tmp 68) (y := .tmp 70) rfl (by kernel_rfl) (by kernel_rfl) hrun3) b3 (fun hHeld => ?_) ?_
          · simp only [Act.put, List.setIfInBounds_toArray, List.set_cons_succ, List.set_cons_zero]
            clear hHeld
            have hHeld := b3
            refine drawn_take (i := 25) (v := .agg #[.int .i64 y0, .int .i64 y1, .int .i64 y2, .int .i64 y3, .int .i64 y4, .int .i64 y5, .int .i64 y6, .slice va z vc]) (some 72) rfl rfl (by kernel_rfl) (by kernel_rfl) (by kernel_rfl) (fun _ _ _ h => h) (Or.inl ⟨by kernel_rfl, fun wq hw => ft_bld (x0 := .tmp 49) (x1 := .tmp 52) (x2 := .tmp 55) (x3 := .tmp 58) (x4 := .tmp 61) (x5 := .tmp 64) (x6 := .tmp 67) (x7 := .tmp 71) rfl (by kernel_rfl) (by kernel_rfl) (by kernel_rfl) (by kernel_rfl) (by kernel_rfl) (by kernel_rfl) (by kernel_rfl) (by kernel_rfl)⟩) hHeld ?_
            simp only [Act.put, List.setIfInBounds_toArray, List.set_cons_succ, List.set_cons_zero]
            have hHeldR := hHeld
            refine wpAnyH_ready (rs := [26]) (by kernel_rfl) (by simp) ?_
            refine rdy_val (i := 26) rfl rfl (some 9) rfl (.pointer (some ⟨w3.heap.size, 0, none⟩)) (w3.alloc (.cells #[.int .i64 0, .int .i64 0, .int .i64 0, .int .i64 0, .int .i64 0, .int .i64 0, .int .i64 0, .slice none 0 0] 24)) (ft_al rfl) (hHeldR.alloc hHeldR.size _) (fun hHeld => ?_) rdy_nil
            simp only [Act.put, List.setIfInBounds_toArray, List.set_cons_succ, List.set_cons_zero]
            have hrow := heap_alloc_new w3 (.cells #[.int .i64 0, .int .i64 0, .int .i64 0, .int .i64 0, .int .i64 0, .int .i64 0, .int .i64 0, .slice none 0 0] 24)
            refine wpAnyH_ready (rs := [27]) (by kernel_rfl) (by simp) ?_
            refine rdy_unit (i := 27) rfl rfl none rfl ((w3.alloc (.cells #[.int .i64 0, .int .i64 0, .int .i64 0, .int .i64 0, .int .i64 0, .int .i64 0, .int .i64 0, .slice none 0 0] 24)).setRow w3.heap.size #[.int .i64 y0, .int .i64 y1, .int .i64 y2, .int .i64 y3, .int .i64 y4, .int .i64 y5, .int .i64 y6, .slice va z vc]) (ft_st (x := .tmp 9) (y := .tmp 72) rfl (by kernel_rfl) (by kernel_rfl) hrow rfl rfl (by kernel_rfl)) (below_setRow hHeld b3.size _) (fun hHeld => ?_) rdy_nil
            simp only [Act.put]
            refine wpAnyH_done (by kernel_rfl) ?_ _
            refine NoPanic.normal ?_
            clear hHeld
            refine ⟨rfl, _, ⟨w3.heap.size, b0, va, vc, rfl, ft_oth hown3 (fun g hg => ?_), b3.size, setRow_heap _ _ _ _ _ _ hrow, below_setRow (b3.alloc b3.size _) b3.size _⟩, by kernel_rfl⟩
            have hgl := (hown3.lt g hg).2
            rw [ft_setRow_other _ _ _ _ (by omega), Below.heap_alloc _ _ _ hgl]
          clear hrun3 hown3 hgr3 b3 va vc w3
          refine rdy_val (i := 26) rfl rfl (some 9) rfl (.pointer (some ⟨wB.heap.size, 0, none⟩)) (wB.alloc (.cells #[.int .i64 0, .int .i64 0, .int .i64 0, .int .i64 0, .int .i64 0, .int .i64 0, .int .i64 0, .slice none 0 0] 24)) (ft_al rfl) (hHeldQ.alloc hHeldQ.size _) (fun hHeld => ?_) rdy_nil
          simp only [Act.put, List.setIfInBounds_toArray, List.set_cons_succ, List.set_cons_zero]
          have hrow := heap_alloc_new wB (.cells #[.int .i64 0, .int .i64 0, .int .i64 0, .int .i64 0, .int .i64 0, .int .i64 0, .int .i64 0, .slice none 0 0] 24)
          have sh : wr.heap.size ≤ wB.heap.size := by first | exact hHeldP.size | exact hHeldQ.size
          obtain ⟨h, eh⟩ : ∃ q, q = wB.heap.size := ⟨_, rfl⟩
          have zwC := World.size_alloc wB (.cells #[.int .i64 0, .int .i64 0, .int .i64 0, .int .i64 0, .int .i64 0, .int .i64 0, .int .i64 0, .slice none 0 0] 24)
          obtain ⟨wC, ewC⟩ : ∃ q, q = wB.alloc (.cells #[.int .i64 0, .int .i64 0, .int .i64 0, .int .i64 0, .int .i64 0, .int .i64 0, .int .i64 0, .slice none 0 0] 24) := ⟨_, rfl⟩
          rw [← ewC] at hHeld zwC
          rw [← eh, ← ewC] at hrow
          rw [← eh] at zwC sh
          rw [← eh, ← ewC]
          have hrb2 : wC.heap[b0]? = some (.cells #[] 3 (0, 0)) := by rw [ewC, Below.heap_alloc _ _ _ (Array.getElem?_eq_some_iff.1 hrb).1]; exact hrb
          have hne : h ≠ b0 := by have := (Array.getElem?_eq_some_iff.1 hrb).1; omega
          have hHeldR := hHeld
          refine wpAnyH_ready (rs := [24]) (by kernel_rfl) (by simp) ?_
          obtain ⟨va, vc, w3, hrun3, hown3, hgr3⟩ := HAPP.out wC b0 hHeldR sb0 hrb2
          have b3 : Below wr.heap.size wr w3 := hHeldR.grown hgr3 hHeldR.size (fun k hk => by cases hk; exact sb0)
          refine rdy_val (i := 24) rfl rfl (some 71) rfl (.slice va z vc) w3 (ft_app3 (x := .tmp 68) (y := .tmp 70) rfl (by kernel_rfl) (by kernel_rfl) hrun3) b3 (fun hHeld => ?_) rdy_nil
          simp only [Act.put, List.setIfInBounds_toArray, List.set_cons_succ, List.set_cons_zero]
          clear hHeld
          have hHeld := b3
          refine drawn_take (i := 25) (v := .agg #[.int .i64 y0, .int .i64 y1, .int .i64 y2, .int .i64 y3, .int .i64 y4, .int .i64 y5, .int .i64 y6, .slice va z vc]) (some 72) rfl rfl (by kernel_rfl) (by kernel_rfl) (by kernel_rfl) (fun _ _ _ h => h) (Or.inl ⟨by kernel_rfl, fun wq hw => ft_bld (x0 := .tmp 49) (x1 := .tmp 52) (x2 := .tmp 55) (x3 := .tmp 58) (x4 := .tmp 61) (x5 := .tmp 64) (x6 := .tmp 67) (x7 := .tmp 71) rfl (by kernel_rfl) (by kernel_rfl) (by kernel_rfl) (by kernel_rfl) (by kernel_rfl) (by kernel_rfl) (by kernel_rfl) (by kernel_rfl)⟩) hHeld ?_
          simp only [Act.put, List.setIfInBounds_toArray, List.set_cons_succ, List.set_cons_zero]
          have hrow3 := (hgr3.block h (by omega) (fun e => hne (Option.some.inj e))).trans hrow
          refine wpAnyH_ready (rs := [27]) (by kernel_rfl) (by simp) ?_
          refine rdy_unit (i := 27) rfl rfl none rfl (w3.setRow h #[.int .i64 y0, .int .i64 y1, .int .i64 y2, .int .i64 y3, .int .i64 y4, .int .i64 y5, .int .i64 y6, .slice va z vc]) (ft_st (x := .tmp 9) (y := .tmp 72) rfl (by kernel_rfl) (by kernel_rfl) hrow3 rfl rfl (by kernel_rfl)) (below_setRow hHeld sh _) (fun hHeld => ?_) rdy_nil
          simp only [Act.put]
          refine wpAnyH_done (by kernel_rfl) ?_ _
          refine NoPanic.normal ?_
          clear hHeld
          refine ⟨rfl, _, ⟨h, b0, va, vc, rfl, ft_oth hown3 (fun g hg => ?_), sh, setRow_heap _ _ _ _ _ _ hrow3, below_setRow b3 sh _⟩, by kernel_rfl⟩
          exact ft_setRow_other _ _ _ _ (ft_ne hown3 hrow3 g hg)
        refine rdy_val (i := 26) rfl rfl (some 9) rfl (.pointer (some ⟨wd.heap.size, 0, none⟩)) (wd.alloc (.cells #[.int .i64 0, .int .i64 0, .int .i64 0, .int .i64 0, .int .i64 0, .int .i64 0, .int .i64 0, .slice none 0 0] 24)) (ft_al rfl) (hHeldP.alloc hHeldP.size _) (fun hHeld => ?_) rdy_nil
        simp only [Act.put, List.setIfInBounds_toArray, List.set_cons_succ, List.set_cons_zero]
        have hrow := heap_alloc_new wd (.cells #[.int .i64 0, .int .i64 0, .int .i64 0, .int .i64 0, .int .i64 0, .int .i64 0, .int .i64 0, .slice none 0 0] 24)
        have sh : wr.heap.size ≤ wd.heap.size := by first | exact hHeldP.size | exact hHeldQ.size
        obtain ⟨h, eh⟩ : ∃ q, q = wd.heap.size := ⟨_, rfl⟩
        have zwC := World.size_alloc wd (.cells #[.int .i64 0, .int .i64 0, .int .i64 0, .int .i64 0, .int .i64 0, .int .i64 0, .int .i64 0, .slice none 0 0] 24)
        obtain ⟨wC, ewC⟩ : ∃ q, q = wd.alloc (.cells #[.int .i64 0, .int .i64 0, .int .i64 0, .int .i64 0, .int .i64 0, .int .i64 0, .int .i64 0, .slice none 0 0] 24) := ⟨_, rfl⟩
        rw [← ewC] at hHeld zwC
        rw [← eh, ← ewC] at hrow
        rw [← eh] at zwC sh
        rw [← eh, ← ewC]
        have hHeldQ := hHeld
        refine wpAnyH_ready (rs := [21]) (by kernel_rfl) (by simp) ?_
        refine rdy_val (i := 21) rfl rfl (some 68) rfl (.slice (some ⟨wC.heap.size, 0, none⟩) 0 0) (wC.alloc (.cells #[] 3)) (ft_bs0 rfl) (hHeldQ.alloc hHeldQ.size _) (fun hHeld => ?_) rdy_nil
        simp only [Act.put, List.setIfInBounds_toArray, List.set_cons_succ, List.set_cons_zero]
        have hrb := heap_alloc_new wC (.cells #[] 3)
        have sb0 : wr.heap.size ≤ wC.heap.size := hHeldQ.size
        obtain ⟨b0, eb0⟩ : ∃ q, q = wC.heap.size := ⟨_, rfl⟩
        have zwB := World.size_alloc wC (.cells #[] 3)
        obtain ⟨wB, ewB⟩ : ∃ q, q = wC.alloc (.cells #[] 3) := ⟨_, rfl⟩
        rw [← ewB] at hHeld zwB
        rw [← eb0, ← ewB] at hrb
        rw [← eb0] at zwB sb0
        rw [← eb0, ← ewB]
        have hrow2 : wB.heap[h]? = some (.cells #[.int .i64 0, .int .i64 0, .int .i64 0, .int .i64 0, .int .i64 0, .int .i64 0, .int .i64 0, .slice none 0 0] 24 (0, 0)) := by rw [ewB, Below.heap_alloc _ _ _ (Array.getElem?_eq_some_iff.1 hrow).1]; exact hrow
        have hne : h ≠ b0 := by have := (Array.getElem?_eq_some_iff.1 hrow).1; omega
        have hHeldR := hHeld
        refine wpAnyH_ready (rs := [24]) (by kernel_rfl) (by simp) ?_
        obtain ⟨va, vc, w3, hrun3, hown3, hgr3⟩ := HAPP.out wB b0 hHeldR sb0 hrb
        have b3 : Below wr.heap.size wr w3 := hHeldR.grown hgr3 hHeldR.size (fun k hk => by cases hk; exact sb0)
        refine rdy_val (i := 24) rfl rfl (some 71) rfl (.slice va z vc) w3 (ft_app3 (x := .tmp 68) (y := .tmp 70) rfl (by kernel_rfl) (by kernel_rfl) hrun3) b3 (fun hHeld => ?_) rdy_nil
        simp only [Act.put, List.setIfInBounds_toArray, List.set_cons_succ, List.set_cons_zero]
        clear hHeld
        have hHeld := b3
        refine drawn_take (i := 25) (v := .agg #[.int .i64 y0, .int .i64 y1, .int .i64 y2, .int .i64 y3, .int .i64 y4, .int .i64 y5, .int .i64 y6, .slice va z vc]) (some 72) rfl rfl (by kernel_rfl) (by kernel_rfl) (by kernel_rfl) (fun _ _ _ h => h) (Or.inl ⟨by kernel_rfl, fun wq hw => ft_bld (x0 := .tmp 49) (x1 := .tmp 52) (x2 := .tmp 55) (x3 := .tmp 58) (x4 := .tmp 61) (x5 := .tmp 64) (x6 := .tmp 67) (x7 := .tmp 71) rfl (by kernel_rfl) (by kernel_rfl) (by kernel_rfl) (by kernel_rfl) (by kernel_rfl) (by kernel_rfl) (by kernel_rfl) (by kernel_rfl)⟩) hHeld ?_
        simp only [Act.put, List.setIfInBounds_toArray, List.set_cons_succ, List.set_cons_zero]
        have hrow3 := (hgr3.block h (by have := (Array.getElem?_eq_some_iff.1 hrow2).1; omega) (fun e => hne (Option.some.inj e))).trans hrow2
        refine wpAnyH_ready (rs := [27]) (by kernel_rfl) (by simp) ?_
        refine rdy_unit (i := 27) rfl rfl none rfl (w3.setRow h #[.int .i64 y0, .int .i64 y1, .int .i64 y2, .int .i64 y3, .int .i64 y4, .int .i64 y5, .int .i64 y6, .slice va z vc]) (ft_st (x := .tmp 9) (y := .tmp 72) rfl (by kernel_rfl) (by kernel_rfl) hrow3 rfl rfl (by kernel_rfl)) (below_setRow hHeld sh _) (fun hHeld => ?_) rdy_nil
        simp only [Act.put]
        refine wpAnyH_done (by kernel_rfl) ?_ _
        refine NoPanic.normal ?_
        clear hHeld
        refine ⟨rfl, _, ⟨h, b0, va, vc, rfl, ft_oth hown3 (fun g hg => ?_), sh, setRow_heap _ _ _ _ _ _ hrow3, below_setRow b3 sh _⟩, by kernel_rfl⟩
        exact ft_setRow_other _ _ _ _ (ft_ne hown3 hrow3 g hg)
      · rintro l w' ⟨h, b0, va, vc, rfl, ho, hh, hrow, hbl⟩
        obtain ⟨a9, c9, e9, hI⟩ := ils_own ho (mNs_length _ _) (by have := HZR.out; omega)
        cases e9
        have hw01 : w.heap.size < wr.heap.size := (Array.getElem?_eq_some_iff.1 HQ1.out).1
        have hq := (hbl.block w.heap.size hw01).trans HQ1.out
        have hBW : Below w.heap.size w w' := HBW1.out.trans (hbl.mono (Nat.le_of_lt hw01))
        have HCAN := hidn (rCan_any w' y0 y1 y2 y3 y4 y5 y6 va z vc (mNs (zs.drop 57) z) hI)
        have HCE : Hid (bCan y0 y1 y2 y3 y4 y5 y6 (mNs (zs.drop 57) z) = ftCan zs) := hidn (by
          obtain ⟨a0, a1, a2, a3, a4, a5, a6⟩ := HY.out
          rw [a0, a1, a2, a3, a4, a5, a6, HZZ.out]
          rfl)
        have HROW := hidn hrow
        have HQ := hidn hq
        have HBW := hidn hBW
        have HO := hidn ho
        have HW01 := hidn hw01
        clear hrow hq hBW ho hI hbl hh hw01 hwd r0 r1 r2 r3 r4 r5 r6 lg hd1
        simp only [ftAll, List.foldl, Act.put, List.setIfInBounds_toArray, List.set_cons_succ, List.set_cons_zero]
        simp only [Exit.then]
        go_at_K
        repeat (first
          | (with_reducible refine wpList_load_row (by rfl) 24 (.tmp 9) (by rfl) h (by kernel_rfl) 24 #[.int .i64 y0, .int .i64 y1, .int .i64 y2, .int .i64 y3, .int .i64 y4, .int .i64 y5, .int .i64 y6, .slice va z vc] (0, 0) _ HROW.out Tryd.underlying24 rfl (by kernel_rfl) ?_)
          | go_values | go_skip | go_guarded | go_step | go_upon)
        refine HCAN.out.mono ?_
        rintro e w2 ⟨rfl, b2⟩
        rw [HCE.out]
        have HROW2 := hidn ((b2.block h (Array.getElem?_eq_some_iff.1 HROW.out).1).trans HROW.out)
        have HQ2 := hidn ((b2.block w.heap.size (Array.getElem?_eq_some_iff.1 HQ.out).1).trans HQ.out)
        have HBW2 := hidn (HBW.out.trans (b2.mono HBW.out.size))
        have HO2 := hidn (ft_below (B := 0) HO.out b2)
        obtain ⟨fc, hfc⟩ : ∃ fc, fc = ftCan zs := ⟨_, rfl⟩
        rw [← hfc]
        have HFC := hidn hfc
        clear hfc b2 HROW HQ HBW HO HCAN HCE
        cases fc with
        | false =>
          simp only []
          go_at_K
          repeat (first
            | (with_reducible refine wpList_store_row (by rfl) 24 (.tmp 2) (.tmp 76) (by rfl) w.heap.size #[.int .i64 0, .int .i64 0, .int .i64 0, .int .i64 0, .int .i64 0, .int .i64 0, .int .i64 0, .slice none 0 0] (by kernel_rfl) (by kernel_rfl) 24 #[.int .i64 0, .int .i64 0, .int .i64 0, .int .i64 0, .int .i64 0, .int .i64 0, .int .i64 0, .slice none 0 0] HQ2.out (by kernel_rfl) (by kernel_rfl) (by kernel_rfl) ?_)
            | go_values | go_skip | go_guarded | go_step | go_upon)
          exact bodyPost_ret (v := .tuple #[.agg #[.int .i64 0, .int .i64 0, .int .i64 0, .int .i64 0, .int .i64 0, .int .i64 0, .int .i64 0, .slice none 0 0], .int .i64 5]) (bk_rowtmp rfl _ _ w.heap.size 24 #[.int .i64 0, .int .i64 0, .int .i64 0, .int .i64 0, .int .i64 0, .int .i64 0, .int .i64 0, .slice none 0 0] (0, 0) _ rfl (setRow_heap _ _ _ _ _ _ HQ2.out) Tryd.underlying24 rfl (by kernel_rfl) _ rfl) rfl ⟨(fun e => by rw [← HFC.out] at e; cases e), fun _ => ⟨rfl, below_setRow HBW2.out (Nat.le_refl _) _⟩⟩
        | true =>
          simp only []
          go_at_K
          repeat (first
            | (with_reducible refine wpList_load_row (by rfl) 24 (.tmp 9) (by rfl) h (by kernel_rfl) 24 #[.int .i64 y0, .int .i64 y1, .int .i64 y2, .int .i64 y3, .int .i64 y4, .int .i64 y5, .int .i64 y6, .slice va z vc] (0, 0) _ HROW2.out Tryd.underlying24 rfl (by kernel_rfl) ?_)
            | (with_reducible refine wpList_store_row (by rfl) 24 (.tmp 2) (.tmp 77) (by rfl) w.heap.size #[.int .i64 y0, .int .i64 y1, .int .i64 y2, .int .i64 y3, .int .i64 y4, .int .i64 y5, .int .i64 y6, .slice va z vc] (by kernel_rfl) (by kernel_rfl) 24 #[.int .i64 0, .int .i64 0, .int .i64 0, .int .i64 0, .int .i64 0, .int .i64 0, .int .i64 0, .slice none 0 0] HQ2.out (by kernel_rfl) (by kernel_rfl) (by kernel_rfl) ?_)
            | go_values | go_skip | go_guarded | go_step | go_upon)
          have hOf := ft_oth (w' := w2.setRow w.heap.size #[.int .i64 y0, .int .i64 y1, .int .i64 y2, .int .i64 y3, .int .i64 y4, .int .i64 y5, .int .i64 y6, .slice va z vc]) HO2.out (fun g hg => ft_setRow_other _ _ _ _ (by have := (HO2.out.lt g hg).1; have := HW01.out; omega))
          obtain ⟨a9, c9, e9, hIf⟩ := ils_own hOf (mNs_length _ _) (by have := HZR.out; omega)
          cases e9
          exact bodyPost_ret (v := .tuple #[.agg #[.int .i64 y0, .int .i64 y1, .int .i64 y2, .int .i64 y3, .int .i64 y4, .int .i64 y5, .int .i64 y6, .slice va z vc], .int .i64 0]) (bk_rowtmp rfl _ _ w.heap.size 24 #[.int .i64 y0, .int .i64 y1, .int .i64 y2, .int .i64 y3, .int .i64 y4, .int .i64 y5, .int .i64 y6, .slice va z vc] (0, 0) _ rfl (setRow_heap _ _ _ _ _ _ HQ2.out) Tryd.underlying24 rfl (by kernel_rfl) _ rfl) rfl ⟨fun _ => by
            obtain ⟨a0, a1, a2, a3, a4, a5, a6⟩ := HY.out
            unfold DecYes
            rw [← a0, ← a1, ← a2, ← a3, ← a4, ← a5, ← a6, ← HZZ.out]
            exact ⟨va, vc, rfl, hIf, below_setRow HBW2.out (Nat.le_refl _) _⟩, fun e => by rw [← HFC.out] at e; cases e⟩
end Go.Proofs.YtfgfkifdokeefaaDoor
