/- The disk's Crash: its contract. -/
import Derived.Test.YtocfbokgbpaneaaMj
namespace Go.Proofs.Ytocfbokgbpaneaa
open Go.RowKit Go.Maps
set_option linter.unusedVariables false

theorem keyStr_inv {x : ByteArray} {kl : Lit} (h : keyOf Try.prog 9 (.string x) = some kl) : x.size ≤ maxLen ∧ kl = .string x.data.toList := by
  simp [keyOf, Try.underlying9, mapKey] at h
  exact ⟨h.1, h.2.symm⟩
theorem wf_nat {i : Nat} (h : i ≤ 9223372036854775807) : (Lit.int .i64 (i : Int)).wf = true := by
  show (decide (IntKind.i64.min ≤ (i : Int)) && decide ((i : Int) ≤ IntKind.i64.max)) = true
  rw [show IntKind.i64.min = -9223372036854775808 from rfl, show IntKind.i64.max = 9223372036854775807 from rfl]
  simp
  omega
theorem lkp_run {o : Oper} {a : Act} {w : World} {t : TypeId} {x y : Operand} {vx vy v : Value} (ho : o.op = Op.lookup t x y false) (hx : a.eval x = vx) (hy : a.eval y = vy) (hr : (Instr.lookup t vx vy false).run Try.prog w = .ok v w) : (execOp a.eval o).run Try.prog w = .ok (.value v) w := by
  simp [execOp, ho, hx, hy, hr, Result.andThen]
theorem builtSpot (s : ByteArray) (i : Int) : Try.prog.built 73 [(0, .string s), (1, .int .i64 i)] = some #[.string s, .int .i64 i] := by kernel_rfl
theorem spot_run {o : Oper} {a : Act} {w : World} {x y : Operand} {s : ByteArray} {i : Int} (ho : o.op = Op.build 73 #[(0, x), (1, y)]) (hx : a.eval x = .string s) (hy : a.eval y = .int .i64 i) : (execOp a.eval o).run Try.prog w = .ok (.value (.agg #[.string s, .int .i64 i])) w := by
  have hr := run_build (P := Try.prog) w 73 #[(0, .string s), (1, .int .i64 i)] #[.string s, .int .i64 i] (builtSpot s i)
  simp [execOp, ho, hx, hy, hr, Result.andThen]
theorem call2_run {o : Oper} {a : Act} {w : World} {x y : Nat} {vx vy : Value} (ho : o.op = Op.call { callee := Callee.value (Operand.func 49), args := #[.tmp x, .tmp y], argTypes := #[49, 3] }) (hx : a.eval (.tmp x) = vx) (hy : a.eval (.tmp y) = vy) : (execOp a.eval o).run Try.prog w = .ok (.enter 49 #[vx, vy]) w := by
  simp [go_sem, execOp, ho, resolve, invoke]
  exact ⟨by simpa [Act.eval] using hx, by simpa [Act.eval] using hy⟩
theorem fellBut_next (kf : List UInt8 → Int → Int) (M : List UInt8 → List Ext) (left : Lit → Bool) (s : List UInt8) : upd (fellBut kf M left) s (fellL (kf s) (M s)) = fellBut kf M (fun z => left z && !z.sameKey (.string s)) := by
  funext t
  by_cases h : t = s
  · subst h
    rw [upd_same]
    simp [fellBut, Lit.sameKey]
  · rw [upd_other _ _ _ _ h]
    have : (Lit.string t).sameKey (.string s) = false := by simp [Lit.sameKey, h]
    simp [fellBut, this]
theorem fellBut_start {w : World} {d N : Nat} {F : Nat → Prop} {M : List UInt8 → List Ext} {free fuse : Int} {bm : Nat} {D : DataW Unit} {G C : List UInt8 → Nat} (h : DiskIs w d F N M free fuse bm D G C) (kf : List UInt8 → Int → Int) : fellBut kf M (Maps.has D) = M := by
  funext s
  unfold fellBut
  split
  · rfl
  · rename_i hh
    by_cases hs : M s = []
    · rw [hs]; rfl
    · exact absurd (has_true_of_atKey (h.2.2.2.2.2.1 s hs).1) hh
theorem fellBut_end (kf : List UInt8 → Int → Int) (M : List UInt8 → List Ext) {left : Lit → Bool} (h : ∀ kl, left kl = false) : fellBut kf M left = fun s => fellL (kf s) (M s) := by
  funext s
  simp [fellBut, h]

theorem keyStr_form {key : Value} {kl : Lit} (h : keyOf Try.prog 9 key = some kl) : ∃ x, key = Value.string x := by
  cases key <;> simp [keyOf, Try.underlying9, mapKey] at h
  exact ⟨_, rfl⟩
theorem diskFuse {w : World} {d N : Nat} {F : Nat → Prop} {M : List UInt8 → List Ext} {free fuse : Int} {bm : Nat} {D : DataW Unit} {G C : List UInt8 → Nat} (h : DiskIs w d F N M free fuse bm D G C) :
    w.cell? ⟨d, 0, none⟩ = some (.map (some bm)) ∧ w.cell? ⟨d, 2, none⟩ = some (.int .i64 fuse) ∧ w.frozen? ⟨d, 2, none⟩ = false :=
  ⟨h.c0, by rw [cell_of_row _ _ _ _ _ _ h.1]; rfl, frozen_of_row _ _ 2 _ _ h.1⟩

theorem DiskIs.turn4 {w w' : World} {d N : Nat} {F : Nat → Prop} {M : List UInt8 → List Ext} {free fuse : Int} {bm : Nat} {D : DataW Unit} {G C : List UInt8 → Nat} (h : DiskIs w d F N M free fuse bm D G C) {r n cnt : Nat} {left : Lit → Bool} (hg : w.grownBy w' (some r)) (hr : w.ranges Try.prog 9 hd bm r n D left cnt) : DiskIs w' d F N M free fuse bm D G C := by
  have hd1 := h.1
  obtain ⟨h1, h2, h3, h4, h5, h6, h7⟩ := h
  refine ⟨(hg.block d (Array.getElem?_eq_some_iff.1 h1).1 (fun e => (ranges_not hr hd1).2 (Option.some.inj e).symm)).trans h1, h2, h3, h4.kept hg (fun e => hr.ne (Option.some.inj e).symm), h5, fun s hs => ?_, h7⟩
  obtain ⟨a1, a2, a3⟩ := h6 s hs
  refine ⟨a1, a2.kept hg (.inr (fun e => ?_)), a3⟩
  rcases a2.2 with ⟨hv, _⟩ | ⟨g', c', cur, hv, _, hh, _⟩
  · cases hv
  · cases hv
    exact (ranges_not hr hh).2 (Option.some.inj e).symm
theorem KeptMap.turn4 {w w' : World} {b bm r n cnt : Nat} {D : DataW Unit} {left : Lit → Bool} {kf : List UInt8 → Int → Int} (h : KeptMap w b kf) (hg : w.grownBy w' (some r)) (hr : w.ranges Try.prog 9 hd bm r n D left cnt) : KeptMap w' b kf := by
  refine h.kept (hg.block b h.lt (fun e => ?_))
  obtain ⟨_, _, ⟨es, clock, h1, _⟩, _⟩ := h
  obtain ⟨_, _, _, _, _, _, _, _, _, h2, _⟩ := hr
  have e' : b = r := Option.some.inj e
  rw [e'] at h1
  rw [h1] at h2
  cases h2

set_option maxHeartbeats 4000000 in
theorem crash_disk (w : World) (d : Nat) (F : Nat → Prop) (N : Nat) (M : List UInt8 → List Ext) (free fuse : Int) (h : DiskOf w d F N M free fuse) (hFlt : ∀ k, F k → k < w.heap.size) (la : Option Addr) (ll lc : Nat) (kf : List UInt8 → Int → Int)
    (hfk : Calls Try.prog 48 #[.slice la ll lc] w fun e w' => ∃ b, e = .returned (.map (some b)) ∧ w.heap.size ≤ b ∧ KeptMap w' b kf ∧ Below w.heap.size w w') :
    Calls Try.prog 23 #[.pointer (some ⟨d, 0, none⟩), .slice la ll lc] w fun e w' => e = .returned (.int .i64 0) ∧ DiskOf w' d F N (fun s => fellL (kf s) (M s)) free (-1) ∧ Gr F F w w' := by
  obtain ⟨bm, D, G, C, hI⟩ := h.is
  go_enter Try.func23, Try.ntmps23
  go_wp2_with fail
  refine (isMade_any _ d F N M free fuse h).mono ?_
  rintro e w0 ⟨rfl, rfl⟩
  go_wp2_with fail
  refine hfk.mono ?_
  rintro e w1 ⟨bk, rfl, hbk, hKM, hb1⟩
  have hI1 := hI.below hb1
  have c0 := hI1.c0
  have hown := hI1.2.2.2.1
  have HI1 := hidn hI1
  have HKM := hidn hKM
  have HK1 := hidn (Keeps.of_below (F := F) hb1)
  have HSZ := hidn hb1.size
  clear hI hI1 hKM hfk h hb1
  go_wp2_with (at_range; refine wpList_range_own _ rfl _ 41 rfl 9 44 lawS Try.underlying41 hd bm N D rfl hown ?_; intro w2 hrg hg2 hs2)
  go_frame
  obtain ⟨r, hr⟩ : ∃ r, r = w1.heap.size := ⟨_, rfl⟩
  rw [← hr] at hrg
  rw [← hr]
  have HR := hidn hr
  have hb2 : Below w1.heap.size w1 w2 := ⟨hg2.os, hg2.tape, hg2.output, hg2.size, fun i hi => hg2.block i hi (by simp)⟩
  have HRG := hidn hrg
  have HI2 := hidn (HI1.out.below hb2)
  have HKM2 := hidn (HKM.out.kept (hb2.block _ HKM.out.lt))
  have HK2 := hidn (HK1.out.trans (Keeps.of_below hb2))
  have HRW : Hid (w0.heap.size ≤ r) := hidn (by rw [hr]; exact HSZ.out)
  clear hr hrg hg2 hs2 hb2 hown c0 HI1 HKM HK1
  go_loopw [26] (fun iv wr => ∃ (left : Lit → Bool) (cnt : Nat), Hid (wr.ranges Try.prog 9 hd bm r N D left cnt) ∧ Hid (DiskIs wr d F N (fellBut kf M left) free fuse bm D G C) ∧ Hid (KeptMap wr bk kf) ∧ Hid (Keeps F w0 wr) ∧ Hid (∀ kl, left kl = true → Maps.has D kl = true)) (fun _ wr => wr.rangeLeft bm r)
  case atStart =>
    refine ⟨Maps.has D, _, HRG, ?_, HKM2, HK2, hidn (fun _ h => h)⟩
    rw [fellBut_start HI2.out kf]
    exact HI2
  case round =>
    obtain ⟨left, cnt, HG3, HI3, HKM3, HK3, HL3⟩ := hrel
    go_wp2_with (at_next; refine wpList_next_ranges _ rfl _ rfl 9 lawS hd Value.string id (fun key kl hk => keyStr_form hk) (fun v y hv => ⟨v, rfl⟩) bm r N D left cnt rfl HG3.out ?_ ?_)
    · intro hc0 hl0
      have HL0 := hidn hl0
      clear hc0 hl0
      obtain ⟨c0', c2, f2⟩ := diskFuse HI3.out
      go_wp2
      go_ret
      have h1 := (HI3.out.fused (-1)).of
      rw [fellBut_end kf M HL0.out] at h1
      exact ⟨rfl, h1, Gr.of (HK3.out.setCell HI3.out.2.1.1 _)⟩
    · intro x c kl y1 y2 w4 cnt4 hkey hlk hv hat hrg4 hlt4 hg4 hs4 hen
      obtain ⟨hxs, rfl⟩ := keyStr_inv hkey
      have hne : M x.data.toList ≠ [] := by
        intro he
        have h1 := HL3.out _ hlk
        have h2 : fellBut kf M left x.data.toList = [] := by unfold fellBut; rw [if_pos hlk]; exact he
        rw [HI3.out.2.2.2.2.1 _ h2] at h1
        cases h1
      have hMs : fellBut kf M left x.data.toList = M x.data.toList := by unfold fellBut; rw [if_pos hlk]
      have hyes := (HI3.out.2.2.2.2.2.1 x.data.toList (by rw [hMs]; exact hne)).1
      rw [hMs] at hyes
      have hy1 : encS (G x.data.toList) (M x.data.toList).length (C x.data.toList) = y1 := (hyes .nil).symm.trans (hat .nil)
      have hc : c = .slice (some ⟨G x.data.toList, 0, none⟩) (M x.data.toList).length (C x.data.toList) := hd_inv (ps := y2) (by rw [hy1]; exact hv)
      subst hc
      obtain ⟨n, hn⟩ : ∃ n, n = (M x.data.toList).length := ⟨_, rfl⟩
      have hlen := HI3.out.len x.data.toList
      rw [hMs] at hlen
      rw [← hn] at hen hlen
      rw [← hn]
      unfold maxLen at hlen
      have HN := hidn hn
      have HI4 := hidn (HI3.out.turn4 hg4 HG3.out)
      have HKM4 := hidn (HKM3.out.turn4 hg4 HG3.out)
      have HK4 := hidn (HK3.out.grown hg4 (Or.inr HRW.out))
      have HG4 := hidn hrg4
      have HLT4 := hidn hlt4
      have HNE := hidn hne
      have HMS := hidn hMs
      have HLK := hidn hlk
      obtain ⟨g, hg⟩ : ∃ g, g = G x.data.toList := ⟨_, rfl⟩
      rw [← hg] at hen
      rw [← hg]
      have HG := hidn hg
      clear hn hg hne hMs hyes hy1 hv hat hrg4 hlt4 hg4 hs4 hkey hlk
      generalize C x.data.toList = c at hen ⊢
      go_wp2_with fail
      go_loopw [26] (fun iv wr => ∃ i : Nat, i ≤ n ∧ iv = .int .i64 i ∧ Hid (wr.ranges Try.prog 9 hd bm r N D (fun z => left z && !z.sameKey (.string x.data.toList)) cnt4) ∧ Hid (DiskIs wr d F N (upd (fellBut kf M left) x.data.toList (fellTo (kf x.data.toList) (M x.data.toList) i)) free fuse bm D G C) ∧ Hid (KeptMap wr bk kf) ∧ Hid (Keeps F w0 wr)) (fun iv _ => n - (intOf iv).toNat)
      case atStart =>
        refine ⟨0, Nat.zero_le _, rfl, HG4, ?_, HKM4, HK4⟩
        rw [fellTo_zero, upd_self _ _ _ HMS.out]
        exact HI4
      case round =>
        obtain ⟨i, hi, rfl, HG5, HI5, HKM5, HK5⟩ := hrel
        by_cases hlt : i < n
        · have hlt' : decide (i < n) = true := by simpa using hlt
          obtain ⟨o, ho⟩ : ∃ o, i * 385 = o := ⟨_, rfl⟩
          have hIX := ext_index g n c i o hlt ho
          have HO := hidn ho
          have hil : i < (M x.data.toList).length := by rw [← HN.out]; exact hlt
          obtain ⟨ex, hex⟩ : ∃ ex, ex = (M x.data.toList)[i] := ⟨_, rfl⟩
          have HEX := hidn hex
          have hat : (upd (fellBut kf M left) x.data.toList (fellTo (kf x.data.toList) (M x.data.toList) i) x.data.toList)[i]? = some ex := by rw [upd_same, fellTo_at _ _ _ hil, hex]
          obtain ⟨p1, p2, p3, p4, p5, p6⟩ := HI5.out.parts _ i _ hat o ho
          rw [← HG.out] at p4
          have HIL := hidn hil
          have HAT := hidn hat
          clear p1 p2 p3 p5 p6 hat ho hex
          have hIXr := fun wx => hIX wx
          cases hw : ex.waits with
          | false =>
            rw [hw] at p4
            have HW := hidn hw
            clear hw
            go_wp2_with (with_reducible refine wpList_index (by rfl) 44 (.tmp 29) (.tmp 30) (by rfl) (.slice (some ⟨g, 0, none⟩) n c) (.int .i64 (i : Int)) (.pointer (some ⟨g, o, none⟩)) (by kernel_rfl) (by kernel_rfl) (hIX _) ?_)
            go_roundw
            case rel =>
              refine ⟨i + 1, hlt, by go_num, HG5, ?_, HKM5, HK5⟩
              rw [fellTo_idle _ _ _ HIL.out (by rw [← HEX.out]; exact HW.out)]
              exact HI5
            case measure => simp [intOf]; omega
          | true =>
            rw [hw] at p4
            have HW := hidn hw
            clear hw
            obtain ⟨kv, hkv⟩ : ∃ kv, kv = kf x.data.toList (i : Int) := ⟨_, rfl⟩
            have HKV := hidn hkv
            clear hkv
            go_wp2_with (with_reducible refine wpList_index (by rfl) 44 (.tmp 29) (.tmp 30) (by rfl) (.slice (some ⟨g, 0, none⟩) n c) (.int .i64 (i : Int)) (.pointer (some ⟨g, o, none⟩)) (by kernel_rfl) (by kernel_rfl) (hIX _) ?_)
            have hwf : (Lit.int .i64 (i : Int)).wf = true := wf_nat (by omega)
            have hKL : ∀ {wx : World}, KeptMap wx bk kf → (Instr.lookup 86 (.map (some bk)) (.agg #[.string x, .int .i64 (i : Int)]) false).run Try.prog wx = .ok (.int .i64 kv) wx := fun hk => by
              rw [HKV.out]
              exact hk.look x i hxs hwf
            have HI6 := hidn (HI5.out.below (Below.drew (Below.refl _ _)))
            have HKM6 := hidn (HKM5.out.kept (w' := World.drew _) rfl)
            have HG6 := hidn (HG5.out.kept (w' := World.drew _) (row := none) ⟨rfl, rfl, rfl, Nat.le_refl _, fun _ _ _ => rfl⟩ (by simp) (by simp))
            have HK6 := hidn (HK5.out.drew)
            refine wp_region_noPanic ?_
            refine wp_region_held_drew (S := fun w' => (Instr.lookup 86 (.map (some bk)) (.agg #[.string x, .int .i64 (i : Int)]) false).run Try.prog w' = .ok (.int .i64 kv) w') (by kernel_rfl) (hKL HKM6.out) (fun hHeld => ?_)
            refine drawn_take (i := 0) (v := .slice (some ⟨g, 0, none⟩) n c) (some 34) rfl rfl (by kernel_rfl) (by kernel_rfl) (by kernel_rfl) (fun _ _ _ h => h) (Or.inl ⟨by kernel_rfl, fun w hw => by go_simp⟩) hHeld ?_
            refine drawn_take (i := 1) (v := .int .i64 (i : Int)) (some 35) rfl rfl (by kernel_rfl) (by kernel_rfl) (by kernel_rfl) (fun _ _ _ h => h) (Or.inl ⟨by kernel_rfl, fun w hw => by go_simp⟩) hHeld ?_
            simp only [Act.put, List.setIfInBounds_toArray, List.set_cons_succ, List.set_cons_zero]
            refine drawn_take (i := 2) (v := .pointer (some ⟨g, o, none⟩)) (some 36) rfl rfl (by kernel_rfl) (by kernel_rfl) (by kernel_rfl) (fun _ _ _ h => h) (Or.inl ⟨by kernel_rfl, fun w hw => idx_run (x := .tmp 34) (y := .tmp 35) (by kernel_rfl) (by kernel_rfl) (by kernel_rfl) (hIX w)⟩) hHeld ?_
            refine drawn_take (i := 3) (v := .map (some bk)) (some 37) rfl rfl (by kernel_rfl) (by kernel_rfl) (by kernel_rfl) (fun _ _ _ h => h) (Or.inl ⟨by kernel_rfl, fun w hw => by go_simp⟩) hHeld ?_
            refine drawn_take (i := 4) (v := .string x) (some 38) rfl rfl (by kernel_rfl) (by kernel_rfl) (by kernel_rfl) (fun _ _ _ h => h) (Or.inl ⟨by kernel_rfl, fun w hw => by go_simp⟩) hHeld ?_
            refine drawn_take (i := 5) (v := .int .i64 (i : Int)) (some 39) rfl rfl (by kernel_rfl) (by kernel_rfl) (by kernel_rfl) (fun _ _ _ h => h) (Or.inl ⟨by kernel_rfl, fun w hw => by go_simp⟩) hHeld ?_
            simp only [Act.put, List.setIfInBounds_toArray, List.set_cons_succ, List.set_cons_zero]
            refine drawn_take (i := 6) (v := .agg #[.string x, .int .i64 (i : Int)]) (some 40) rfl rfl (by kernel_rfl) (by kernel_rfl) (by kernel_rfl) (fun _ _ _ h => h) (Or.inl ⟨by kernel_rfl, fun w hw => spot_run (x := .tmp 38) (y := .tmp 39) (by kernel_rfl) (by kernel_rfl) (by kernel_rfl)⟩) hHeld ?_
            simp only [Act.put, List.setIfInBounds_toArray, List.set_cons_succ, List.set_cons_zero]
            refine drawn_take (i := 7) (v := .int .i64 kv) (some 41) rfl rfl (by kernel_rfl) (by kernel_rfl) (by kernel_rfl) (fun _ _ _ h => h) (Or.inl ⟨by kernel_rfl, fun w hw => lkp_run (x := .tmp 37) (y := .tmp 40) (by kernel_rfl) (by kernel_rfl) (by kernel_rfl) hw⟩) hHeld ?_
            simp only [Act.put, List.setIfInBounds_toArray, List.set_cons_succ, List.set_cons_zero]
            refine wpAnyH_ready (rs := [8]) (by kernel_rfl) (by simp) ?_
            have hne6 : upd (fellBut kf M left) x.data.toList (fellTo (kf x.data.toList) (M x.data.toList) i) x.data.toList ≠ [] := ne_of_at HAT.out
            obtain ⟨cur6, hcur6⟩ := HI6.out.row_cells x.data.toList hne6
            have hcr := crash_ext HI6.out x.data.toList i _ HAT.out o HO.out kv HW.out
            rw [upd_upd, upd_same, HEX.out, HKV.out, fellTo_step _ _ _ HIL.out, ← HG.out, ← HKV.out] at hcr
            rw [← HG.out] at hcur6
            refine rdy_call (i := 8) rfl rfl (some 42) rfl 49 #[.pointer (some ⟨g, o, none⟩), .int .i64 kv] (call2_run (x := 36) (y := 41) (by kernel_rfl) (by kernel_rfl) (by kernel_rfl)) (fun _ w' => DiskIs w' d F N (upd (fellBut kf M left) x.data.toList (fellTo (kf x.data.toList) (M x.data.toList) (i + 1))) free fuse bm D G C ∧ wr.drew.grownBy w' (some g)) (hcr.mono fun e w' h => ⟨_, h.1, h.2⟩) (fun v w7 hR => ?_) rdy_nil
            obtain ⟨hI7, hg7⟩ := hR
            have hFg : F g := by rw [HG.out]; exact HI6.out.2.2.1.2 _ hne6
            have HG7 := hidn (HG6.out.kept hg7 (fun e => (ranges_not HG6.out hcur6).1 (Option.some.inj e)) (fun e => (ranges_not HG6.out hcur6).2 (Option.some.inj e)))
            have HKM7 := hidn (HKM6.out.kept (hg7.block bk HKM6.out.lt (fun e => (HKM6.out.not hcur6) (Option.some.inj e))))
            have HK7 := hidn (HK6.out.grown hg7 (Or.inl hFg))
            have HI7 := hidn hI7
            refine ⟨hKL HKM7.out, fun hHeld => ?_⟩
            refine wpAnyH_done (by kernel_rfl) ?_ _
            refine NoPanic.normal ?_
            simp only [Act.put, List.setIfInBounds_toArray, List.set_cons_succ, List.set_cons_zero]
            clear hHeld hI7 hg7 hcr hcur6 hne6
            go_wp2
            go_roundw
            case rel => exact ⟨i + 1, hlt, by go_num, HG7, HI7, HKM7, HK7⟩
            case measure => simp [intOf]; omega
        · obtain rfl : i = n := by omega
          have hlt' : decide (i < i) = false := by simp
          go_wp2
          go_roundw
          case rel =>
            refine ⟨_, cnt4, HG5, ?_, HKM5, HK5, hidn (fun kl hk => HL3.out kl (by simp at hk; exact hk.1))⟩
            have h1 := HI5.out
            rw [HN.out, fellTo_all, fellBut_next] at h1
            exact h1
          case measure =>
            rw [HG5.out.left_eq, HG3.out.left_eq]
            exact HLT4.out
end Go.Proofs.Ytocfbokgbpaneaa
