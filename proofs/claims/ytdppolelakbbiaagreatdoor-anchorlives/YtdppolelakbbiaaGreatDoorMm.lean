/- The disk's Crash: its contract. -/
import Derived.Test.YtdppolelakbbiaaGreatDoorMl
import Derived.Test.YtdppolelakbbiaaGreatDoorMe
import Derived.Test.YtdppolelakbbiaaGreatDoorMj
namespace Go.Proofs.YtdppolelakbbiaaGreatDoor
open Go.RowKit Go.Maps
set_option linter.unusedVariables false
theorem keyStr_inv {x : ByteArray} {kl : Lit} (h : keyOf Tryz.prog 9 (.string x) = some kl) : x.size ≤ maxLen ∧ kl = .string x.data.toList := by
 simp [keyOf, Tryz.underlying9, mapKey] at h
 exact ⟨h.1, h.2.symm⟩
theorem wf_nat {i : Nat} (h : i ≤ 9223372036854775807) : (Lit.int .i64 (i : Int)).wf = true := by
 show (decide (IntKind.i64.min ≤ (i : Int)) && decide ((i : Int) ≤ IntKind.i64.max)) = true
 rw [show IntKind.i64.min = -9223372036854775808 from rfl, show IntKind.i64.max = 9223372036854775807 from rfl]
 simp
 omega
theorem lkp_run {o : Oper} {a : Act} {w : World} {t : TypeId} {x y : Operand} {vx vy v : Value} (ho : o.op = Op.lookup t x y false) (hx : a.eval x = vx) (hy : a.eval y = vy) (hr : (Instr.lookup t vx vy false).run Tryz.prog w = .ok v w) : (execOp a.eval o).run Tryz.prog w = .ok (.value v) w := by
 simp [execOp, ho, hx, hy, hr, Result.andThen]
theorem builtSpot (s : ByteArray) (i : Int) : Tryz.prog.built 105 [(0, .string s), (1, .int .i64 i)] = some #[.string s, .int .i64 i] := by kernel_rfl
theorem spot_run {o : Oper} {a : Act} {w : World} {x y : Operand} {s : ByteArray} {i : Int} (ho : o.op = Op.build 105 #[(0, x), (1, y)]) (hx : a.eval x = .string s) (hy : a.eval y = .int .i64 i) : (execOp a.eval o).run Tryz.prog w = .ok (.value (.agg #[.string s, .int .i64 i])) w := by
 have hr := run_build (P := Tryz.prog) w 105 #[(0, .string s), (1, .int .i64 i)] #[.string s, .int .i64 i] (builtSpot s i)
 simp [execOp, ho, hx, hy, hr, Result.andThen]
theorem call2_run {o : Oper} {a : Act} {w : World} {x y : Nat} {vx vy : Value} (ho : o.op = Op.call { callee := Callee.value (Operand.func 111), args := #[.tmp x, .tmp y], argTypes := #[136, 3] }) (hx : a.eval (.tmp x) = vx) (hy : a.eval (.tmp y) = vy) : (execOp a.eval o).run Tryz.prog w = .ok (.enter 111 #[vx, vy]) w := by
 simp [go_sem, execOp, ho, resolve, invoke]
 exact ⟨by simpa [Act.eval] using hx, by simpa [Act.eval] using hy⟩
theorem fellBut_next (kf : List UInt8 → Int → Int) (M : List UInt8 → List Ext) (left : Lit → Bool) (s : List UInt8) : upd (fellBut kf M left) s (fellL (kf s) (M s)) = fellBut kf M (fun z => left z && !z.sameKey (.string s)) := by
 funext t
 by_cases h : t = s
 ·
  subst h
  rw [upd_same]
  simp [fellBut, Lit.sameKey]
 ·
  rw [upd_other _ _ _ _ h]
  have : (Lit.string t).sameKey (.string s) = false := by simp [Lit.sameKey, h]
  simp [fellBut, this]
theorem fellBut_start {w : World} {d N : Nat} {F : Nat → Prop} {M : List UInt8 → List Ext} {free fuse : Int} {bm : Nat} {D : DataW Unit} {G C : List UInt8 → Nat} (h : DiskIs w d F N M free fuse bm D G C) (kf : List UInt8 → Int → Int) : fellBut kf M (Maps.has D) = M := by
 funext s
 unfold fellBut
 split
 ·
  rfl
 ·
  rename_i hh
  by_cases hs : M s = []
  ·
   rw [hs]; rfl
  ·
   exact absurd (has_true_of_atKey (h.2.2.2.2.2.1 s hs).1) hh
theorem fellBut_end (kf : List UInt8 → Int → Int) (M : List UInt8 → List Ext) {left : Lit → Bool} (h : ∀ kl, left kl = false) : fellBut kf M left = fun s => fellL (kf s) (M s) := by
 funext s
 simp [fellBut, h]
theorem keyStr_form {key : Value} {kl : Lit} (h : keyOf Tryz.prog 9 key = some kl) : ∃ x, key = Value.string x := by
 cases key <;> simp [keyOf, Tryz.underlying9, mapKey] at h
 exact ⟨_, rfl⟩
theorem diskFuse {w : World} {d N : Nat} {F : Nat → Prop} {M : List UInt8 → List Ext} {free fuse : Int} {bm : Nat} {D : DataW Unit} {G C : List UInt8 → Nat} (h : DiskIs w d F N M free fuse bm D G C) :
  w.cell? ⟨d, 0, none⟩ = some (.map (some bm)) ∧ w.cell? ⟨d, 2, none⟩ = some (.int .i64 fuse) ∧ w.frozen? ⟨d, 2, none⟩ = false :=
 ⟨h.c0, by rw [cell_of_row _ _ _ _ _ _ h.1]; rfl, frozen_of_row _ _ 2 _ _ h.1⟩
theorem DiskIs.turn4 {w w' : World} {d N : Nat} {F : Nat → Prop} {M : List UInt8 → List Ext} {free fuse : Int} {bm : Nat} {D : DataW Unit} {G C : List UInt8 → Nat} (h : DiskIs w d F N M free fuse bm D G C) {r n cnt : Nat} {left : Lit → Bool} (hg : w.grownBy w' (some r)) (hr : w.ranges Tryz.prog 9 hd bm r n D left cnt) : DiskIs w' d F N M free fuse bm D G C := by
 have hd1 := h.1
 obtain ⟨h1, h2, h3, h4, h5, h6, h7⟩ := h
 refine ⟨(hg.block d (lQ3.1 h1).1 (fun e => (ranges_not hr hd1).2 (lQ5 e).symm)).trans h1, h2, h3, h4.kept hg (fun e => hr.ne (lQ5 e).symm), h5, fun s hs => ?_, h7⟩
 obtain ⟨a1, a2, a3⟩ := h6 s hs
 refine ⟨a1, a2.kept hg (.inr (fun e => ?_)), a3⟩
 rcases a2.2 with ⟨hv, _⟩ | ⟨g', c', cur, hv, _, hh, _⟩
 ·
  cases hv
 ·
  cases hv
  exact (ranges_not hr hh).2 (lQ5 e).symm
theorem KeptMap.turn4 {w w' : World} {b bm r n cnt : Nat} {D : DataW Unit} {left : Lit → Bool} {kf : List UInt8 → Int → Int} (h : KeptMap w b kf) (hg : w.grownBy w' (some r)) (hr : w.ranges Tryz.prog 9 hd bm r n D left cnt) : KeptMap w' b kf := by
 refine h.kept (hg.block b h.lt (fun e => ?_))
 obtain ⟨_, _, ⟨es, clock, h1, _⟩, _⟩ := h
 obtain ⟨_, _, _, _, _, _, _, _, _, h2, _⟩ := hr
 have e' : b = r := lQ5 e
 rw [e'] at h1
 rw [h1] at h2
 cases h2
set_option maxHeartbeats 4000000 in
theorem crash_disk (w : World) (d : Nat) (F : Nat → Prop) (N : Nat) (M : List UInt8 → List Ext) (free fuse : Int) (h : DiskOf w d F N M free fuse) (hFlt : ∀ k, F k → k < w.heap.size) (la : Option Addr) (ll lc : Nat) (kf : List UInt8 → Int → Int)
  (hfk : Calls Tryz.prog 110 #[.slice la ll lc] w fun e w' => ∃ b, e = .returned (.map (some b)) ∧ w.heap.size ≤ b ∧ KeptMap w' b kf ∧ Below w.heap.size w w') :
  Calls Tryz.prog 60 #[.pointer (some ⟨d, 0, none⟩), .slice la ll lc] w fun e w' => e = .returned (.int .i64 0) ∧ DiskOf w' d F N (fun s => fellL (kf s) (M s)) free (-1) ∧ Gr F F w w' := by
 obtain ⟨bm, D, G, C, hI⟩ := h.is
 go_enter Tryz.func60, Tryz.ntmps60
 go_wp2_with fail
 refine (isMade_any _ d F N M free fuse h).mono ?_
 rintro e w0 ⟨rfl, rfl⟩
 go_wp2_with fail
 refine hfk.mono ?_
 rintro e w1 ⟨bk, rfl, hbk, hKM, hb1⟩
 have hI1 := hI.below hb1
 have c0 := hI1.c0
 have hown := hI1.2.2.2.1
 have HI1 := hidn hI1
 have HKM := hidn hKM
 have HK1 := hidn (Keeps.of_below (F := F) hb1)
 have HSZ := hidn hb1.size
 clear hI hI1 hKM hfk h hb1
 go_wp2_with (at_range; refine wpList_range_own _ rfl _ 122 rfl 9 132 lawS Tryz.underlying122 hd bm N D rfl hown ?_; intro w2 hrg hg2 hs2)
 go_frame
 obtain ⟨r, hr⟩ : ∃ r, r = w1.heap.size := ⟨_, rfl⟩
 rw [← hr] at hrg
 rw [← hr]
 have HR := hidn hr
 have hb2 : Below w1.heap.size w1 w2 := ⟨hg2.os, hg2.tape, hg2.output, hg2.size, fun i hi => hg2.block i hi (by simp)⟩
 have HRG := hidn hrg
 have HI2 := hidn (HI1.out.below hb2)
 have HKM2 := hidn (HKM.out.kept (hb2.block _ HKM.out.lt))
 have HK2 := hidn (HK1.out.trans (Keeps.of_below hb2))
 have HRW : Hid (w0.heap.size ≤ r) := hidn (by rw [hr]; exact HSZ.out)
 clear hr hrg hg2 hs2 hb2 hown c0 HI1 HKM HK1
 go_loopw [26] (fun iv wr => ∃ (left : Lit → Bool) (cnt : Nat), Hid (wr.ranges Tryz.prog 9 hd bm r N D left cnt) ∧ Hid (DiskIs wr d F N (fellBut kf M left) free fuse bm D G C) ∧ Hid (KeptMap wr bk kf) ∧ Hid (Keeps F w0 wr) ∧ Hid (∀ kl, left kl = true → Maps.has D kl = true)) (fun _ wr => wr.rangeLeft bm r)
 case atStart =>
  refine ⟨Maps.has D, _, HRG, ?_, HKM2, HK2, hidn (fun _ h => h)⟩
  rw [fellBut_start HI2.out kf]
  exact HI2
 case round =>
  obtain ⟨left, cnt, HG3, HI3, HKM3, HK3, HL3⟩ := hrel
  go_wp2_with (at_next; refine wpList_next_ranges _ rfl _ rfl 9 lawS hd Value.string id (fun key kl hk => keyStr_form hk) (fun v y hv => ⟨v, rfl⟩) bm r N D left cnt rfl HG3.out ?_ ?_)
  ·
   intro hc0 hl0
   have HL0 := hidn hl0
   clear hc0 hl0
   obtain ⟨c0', c2, f2⟩ := diskFuse HI3.out
   go_wp2
   go_ret
   have h1 := (HI3.out.fused (-1)).of
   rw [fellBut_end kf M HL0.out] at h1
   exact ⟨rfl, h1, Gr.of (HK3.out.setCell HI3.out.2.1.1 _)⟩
  ·
   intro x c kl y1 y2 w4 cnt4 hkey hlk hv hat hrg4 hlt4 hg4 hs4 hen
   obtain ⟨hxs, rfl⟩ := keyStr_inv hkey
   have hne : M x.data.toList ≠ [] := by
    intro he
    have h1 := HL3.out _ hlk
    have h2 : fellBut kf M left x.data.toList = [] := by unfold fellBut; rw [if_pos hlk]; exact he
    rw [HI3.out.2.2.2.2.1 _ h2] at h1
    cases h1
   have hMs : fellBut kf M left x.data.toList = M x.data.toList := by unfold fellBut; rw [if_pos hlk]
   have hyes := (HI3.out.2.2.2.2.2.1 x.data.toList (by rw [hMs]; exact hne)).1
   rw [hMs] at hyes
   have hy1 : encS (G x.data.toList) (M x.data.toList).length (C x.data.toList) = y1 := (hyes .nil).symm.trans (hat .nil)
   have hc : c = .slice (some ⟨G x.data.toList, 0, none⟩) (M x.data.toList).length (C x.data.toList) := hd_inv (ps := y2) (by rw [hy1]; exact hv)
   subst hc
   obtain ⟨n, hn⟩ : ∃ n, n = (M x.data.toList).length := ⟨_, rfl⟩
   have hlen := HI3.out.len x.data.toList
   rw [hMs] at hlen
   rw [← hn] at hen hlen
   rw [← hn]
   unfold maxLen at hlen
   have HN := hidn hn
   have HI4 := hidn (HI3.out.turn4 hg4 HG3.out)
   have HKM4 := hidn (HKM3.out.turn4 hg4 HG3.out)
   have HK4 := hidn (HK3.out.grown hg4 (Or.inr HRW.out))
   have HG4 := hidn hrg4
   have HLT4 := hidn hlt4
   have HNE := hidn hne
   have HMS := hidn hMs
   have HLK := hidn hlk
   obtain ⟨g, hg⟩ : ∃ g, g = G x.data.toList := ⟨_, rfl⟩
   rw [← hg] at hen
   rw [← hg]
   have HG := hidn hg
   clear hn hg hne hMs hyes hy1 hv hat hrg4 hlt4 hg4 hs4 hkey hlk
   generalize C x.data.toList = c at hen ⊢
   go_wp2_with fail
   go_loopw [26] (fun iv wr => ∃ i : Nat, i ≤ n ∧ iv = .int .i64 i ∧ Hid (wr.ranges Tryz.prog 9 hd bm r N D (fun z => left z && !z.sameKey (.string x.data.toList)) cnt4) ∧ Hid (DiskIs wr d F N (upd (fellBut kf M left) x.data.toList (fellTo (kf x.data.toList) (M x.data.toList) i)) free fuse bm D G C) ∧ Hid (KeptMap wr bk kf) ∧ Hid (Keeps F w0 wr)) (fun iv _ => n - (intOf iv).toNat)
   case atStart =>
    refine ⟨0, Nat.zero_le _, rfl, HG4, ?_, HKM4, HK4⟩
    rw [fellTo_zero, upd_self _ _ _ HMS.out]
    exact HI4
   case round =>
    obtain ⟨i, hi, rfl, HG5, HI5, HKM5, HK5⟩ := hrel
    by_cases hlt : i < n
    ·
     have hlt' : decide (i < n) = true := by simpa using hlt
     obtain ⟨o, ho⟩ : ∃ o, i * 385 = o := ⟨_, rfl⟩
     have hIX := ext_index g n c i o hlt ho
     have HO := hidn ho
     have hil : i < (M x.data.toList).length := by rw [← HN.out]; exact hlt
     obtain ⟨ex, hex⟩ : ∃ ex, ex = (M x.data.toList)[i] := ⟨_, rfl⟩
     have HEX := hidn hex
     have hat : (upd (fellBut kf M left) x.data.toList (fellTo (kf x.data.toList) (M x.data.toList) i) x.data.toList)[i]? = some ex := by rw [upd_same, fellTo_at _ _ _ hil, hex]
     obtain ⟨p1, p2, p3, p4, p5, p6⟩ := HI5.out.parts _ i _ hat o ho
     rw [← HG.out] at p4
     have HIL := hidn hil
     have HAT := hidn hat
     clear p1 p2 p3 p5 p6 hat ho hex
     have hIXr := fun wx => hIX wx
     cases hw : ex.waits with
     | false =>
      rw [hw] at p4
      have HW := hidn hw
      clear hw
      go_wp2_with (with_reducible refine wpList_index (by rfl) 132 (.tmp 29) (.tmp 30) (by rfl) (.slice (some ⟨g, 0, none⟩) n c) (.int .i64 (i : Int)) (.pointer (some ⟨g, o, none⟩)) (by kernel_rfl) (by kernel_rfl) (hIX _) ?_)
      go_roundw
      case rel =>
       refine ⟨i + 1, hlt, by go_num, HG5, ?_, HKM5, HK5⟩
       rw [fellTo_idle _ _ _ HIL.out (by rw [← HEX.out]; exact HW.out)]
       exact HI5
      case measure => simp [intOf]; omega
     | true =>
      rw [hw] at p4
      have HW := hidn hw
      clear hw
      obtain ⟨kv, hkv⟩ : ∃ kv, kv = kf x.data.toList (i : Int) := ⟨_, rfl⟩
      have HKV := hidn hkv
      clear hkv
      go_wp2_with (with_reducible refine wpList_index (by rfl) 132 (.tmp 29) (.tmp 30) (by rfl) (.slice (some ⟨g, 0, none⟩) n c) (.int .i64 (i : Int)) (.pointer (some ⟨g, o, none⟩)) (by kernel_rfl) (by kernel_rfl) (hIX _) ?_)
      have hwf : (Lit.int .i64 (i : Int)).wf = true := wf_nat (by omega)
      have hKL : ∀ {wx : World}, KeptMap wx bk kf → (Instr.lookup 149 (.map (some bk)) (.agg #[.string x, .int .i64 (i : Int)]) false).run Tryz.prog wx = .ok (.int .i64 kv) wx := fun hk => by
       rw [HKV.out]
       exact hk.look x i hxs hwf
      have HI6 := hidn (HI5.out.below (Below.drew (Below.refl _ _)))
      have HKM6 := hidn (HKM5.out.kept (w' := World.drew _) rfl)
      have HG6 := hidn (HG5.out.kept (w' := World.drew _) (row := none) ⟨rfl, rfl, rfl, Nat.le_refl _, fun _ _ _ => rfl⟩ (by simp) (by simp))
      have HK6 := hidn (HK5.out.drew)
      refine wp_region_noPanic ?_
      refine wp_region_held_drew (S := fun w' => (Instr.lookup 149 (.map (some bk)) (.agg #[.string x, .int .i64 (i : Int)]) false).run Tryz.prog w' = .ok (.int .i64 kv) w') (by kernel_rfl) (hKL HKM6.out) (fun hHeld => ?_)
      refine dtk (i := 0) (v := .slice (some ⟨g, 0, none⟩) n c) (some 34) rfl rfl (by kernel_rfl) (by kernel_rfl) (fun w hw => by go_simp) hHeld ?_
      refine dtk (i := 1) (v := .int .i64 (i : Int)) (some 35) rfl rfl (by kernel_rfl) (by kernel_rfl) (fun w hw => by go_simp) hHeld ?_
      simp only [Act.put, sQ1, sQ2, sQ3]
      refine dtk (i := 2) (v := .pointer (some ⟨g, o, none⟩)) (some 36) rfl rfl (by kernel_rfl) (by kernel_rfl) (fun w hw => idx_run (x := .tmp 34) (y := .tmp 35) (by kernel_rfl) (by kernel_rfl) (by kernel_rfl) (hIX w)) hHeld ?_
      refine dtk (i := 3) (v := .map (some bk)) (some 37) rfl rfl (by kernel_rfl) (by kernel_rfl) (fun w hw => by go_simp) hHeld ?_
      refine dtk (i := 4) (v := .string x) (some 38) rfl rfl (by kernel_rfl) (by kernel_rfl) (fun w hw => by go_simp) hHeld ?_
      refine dtk (i := 5) (v := .int .i64 (i : Int)) (some 39) rfl rfl (by kernel_rfl) (by kernel_rfl) (fun w hw => by go_simp) hHeld ?_
      simp only [Act.put, sQ1, sQ2, sQ3]
      refine dtk (i := 6) (v := .agg #[.string x, .int .i64 (i : Int)]) (some 40) rfl rfl (by kernel_rfl) (by kernel_rfl) (fun w hw => spot_run (x := .tmp 38) (y := .tmp 39) (by kernel_rfl) (by kernel_rfl) (by kernel_rfl)) hHeld ?_
      simp only [Act.put, sQ1, sQ2, sQ3]
      refine dtk (i := 7) (v := .int .i64 kv) (some 41) rfl rfl (by kernel_rfl) (by kernel_rfl) (fun w hw => lkp_run (x := .tmp 37) (y := .tmp 40) (by kernel_rfl) (by kernel_rfl) (by kernel_rfl) hw) hHeld ?_
      simp only [Act.put, sQ1, sQ2, sQ3]
      refine wpAnyH_ready (rs := [8]) (by kernel_rfl) (by simp) ?_
      have hne6 : upd (fellBut kf M left) x.data.toList (fellTo (kf x.data.toList) (M x.data.toList) i) x.data.toList ≠ [] := ne_of_at HAT.out
      obtain ⟨cur6, hcur6⟩ := HI6.out.row_cells x.data.toList hne6
      have hcr := crash_ext HI6.out x.data.toList i _ HAT.out o HO.out kv HW.out
      rw [upd_upd, upd_same, HEX.out, HKV.out, fellTo_step _ _ _ HIL.out, ← HG.out, ← HKV.out] at hcr
      rw [← HG.out] at hcur6
      refine rdy_call (i := 8) rfl rfl (some 42) rfl 111 #[.pointer (some ⟨g, o, none⟩), .int .i64 kv] (call2_run (x := 36) (y := 41) (by kernel_rfl) (by kernel_rfl) (by kernel_rfl)) (fun _ w' => DiskIs w' d F N (upd (fellBut kf M left) x.data.toList (fellTo (kf x.data.toList) (M x.data.toList) (i + 1))) free fuse bm D G C ∧ wr.drew.grownBy w' (some g)) (hcr.mono fun e w' h => ⟨_, h.1, h.2⟩) (fun v w7 hR => ?_) rdy_nil
      obtain ⟨hI7, hg7⟩ := hR
      have hFg : F g := by rw [HG.out]; exact HI6.out.2.2.1.2 _ hne6
      have HG7 := hidn (HG6.out.kept hg7 (fun e => (ranges_not HG6.out hcur6).1 (lQ5 e)) (fun e => (ranges_not HG6.out hcur6).2 (lQ5 e)))
      have HKM7 := hidn (HKM6.out.kept (hg7.block bk HKM6.out.lt (fun e => (HKM6.out.not hcur6) (lQ5 e))))
      have HK7 := hidn (HK6.out.grown hg7 (Or.inl hFg))
      have HI7 := hidn hI7
      refine ⟨hKL HKM7.out, fun hHeld => ?_⟩
      refine wpAnyH_done (by kernel_rfl) ?_ _
      refine NoPanic.normal ?_
      simp only [Act.put, sQ1, sQ2, sQ3]
      clear hHeld hI7 hg7 hcr hcur6 hne6
      go_wp2
      go_roundw
      case rel => exact ⟨i + 1, hlt, by go_num, HG7, HI7, HKM7, HK7⟩
      case measure => simp [intOf]; omega
    ·
     obtain rfl : i = n := by omega
     have hlt' : decide (i < i) = false := by simp
     go_wp2
     go_roundw
     case rel =>
      refine ⟨_, cnt4, HG5, ?_, HKM5, HK5, hidn (fun kl hk => HL3.out kl (by simp at hk; exact hk.1))⟩
      have h1 := HI5.out
      rw [HN.out, fellTo_all, fellBut_next] at h1
      exact h1
     case measure =>
      rw [HG5.out.left_eq, HG3.out.left_eq]
      exact HLT4.out
end Go.Proofs.YtdppolelakbbiaaGreatDoor

namespace Go.Proofs.YtdppolelakbbiaaGreatDoor
open Go.RowKit Go.Maps
set_option linter.unusedVariables false
end Go.Proofs.YtdppolelakbbiaaGreatDoor

namespace Go.Proofs.YtdppolelakbbiaaGreatDoor
open Go.RowKit Go.Maps
set_option linter.unusedVariables false
structure St where
 M : List UInt8 → List Ext
 free : Int
 fuse : Int
def wrD (st : St) (nm : List UInt8) (i : Nat) (z : List Nat) : St × Int :=
 if (st.M nm).length < i then (st, 1)
 else if st.fuse = 0 then (st, 31)
 else match (st.M nm)[i]? with
  | some x => (⟨upd st.M nm ((st.M nm).set i (x.wrote z)), st.free, burnt st.fuse⟩, 0)
  | none => if st.free = 0 then (⟨st.M, st.free, burnt st.fuse⟩, 4) else (⟨upd st.M nm (st.M nm ++ [zeroE.wrote z]), st.free - 1, burnt st.fuse⟩, 0)
def syD (st : St) (nm : List UInt8) : St × Int :=
 if st.M nm = [] then (st, 30)
 else if st.fuse = 0 then (st, 31)
 else (⟨upd st.M nm ((st.M nm).map Ext.synced), st.free, burnt st.fuse⟩, 0)
def DiskS (w : World) (d : Nat) (F : Nat → Prop) (N : Nat) (st : St) : Prop := DiskOf w d F N st.M st.free st.fuse
theorem DiskS.below {w w' : World} {d N : Nat} {F : Nat → Prop} {st : St} (h : DiskS w d F N st) (hb : Below w.heap.size w w') : DiskS w' d F N st := DiskOf.below h hb
theorem DiskS.mono {w : World} {d N N' : Nat} {F : Nat → Prop} {st : St} (h : DiskS w d F N st) (hn : N ≤ N') : DiskS w d F N' st := DiskOf.mono h hn
def WrPost (w : World) (d : Nat) (F : Nat → Prop) (N : Nat) (r : St × Int) (e : Ending) (w' : World) : Prop :=
 e = .returned (.int .i64 r.2) ∧ ∃ F', DiskS w' d F' N r.1 ∧ Gr F F' w w'
theorem write_sto (w : World) (d : Nat) (F : Nat → Prop) (N : Nat) (st : St) (h : DiskS w d F N st) (s : ByteArray) (hs : nameB s.data.toList = true) (i n : Nat) (HN : Hid (n = (st.M s.data.toList).length)) (b boff cap : Nat) (zs : List Nat) (hb : BsF F w (some ⟨b, boff, none⟩) 128 zs) (hf : -1 ≤ st.fuse) (hf2 : st.fuse ≤ 9223372036854775807) (hn : n ≤ 1000000) (hNm : N < maxLen) (hfr0 : 0 ≤ st.free) (hfr : st.free ≤ 1000000) :
  Calls Tryz.prog 56 #[.pointer (some ⟨d, 0, none⟩), .string s, .int .i64 (i : Int), .slice (some ⟨b, boff, none⟩) 128 cap] w (WrPost w d F (N + 1) (wrD st s.data.toList i zs)) := by
 have hsm : s.size ≤ maxLen := by have := (name_size hs).2; unfold maxLen; omega
 by_cases h1 : n < i
 ·
  refine (write_arg w d F N st.M st.free st.fuse h s hsm i n HN _ 128 cap (Or.inr (Or.inr (Or.inr (by omega))))).mono ?_
  rintro e w' ⟨rfl, rfl⟩
  have e1 : wrD st s.data.toList i zs = (st, 1) := by unfold wrD; rw [if_pos (by rw [← HN.out]; exact h1)]
  rw [e1]
  exact ⟨rfl, F, DiskOf.mono h (by omega), Gr.refl _ _⟩
 ·
  obtain ⟨M, free, fuse⟩ := st
  simp only at HN hf hf2 hfr0 hfr
  by_cases h2 : fuse = 0
  ·
   subst h2
   refine (write_dead w d F N M free h s hs i n HN (by omega) _ cap).mono ?_
   rintro e w' ⟨rfl, rfl⟩
   have e1 : wrD ⟨M, free, 0⟩ s.data.toList i zs = (⟨M, free, 0⟩, 31) := by unfold wrD; rw [if_neg (by show ¬ (M s.data.toList).length < i; rw [← HN.out]; exact h1), if_pos rfl]
   rw [e1]
   exact ⟨rfl, F, DiskOf.mono h (by omega), Gr.refl _ _⟩
  ·
   by_cases h3 : i < n
   ·
    obtain ⟨x, hx⟩ : ∃ x, (M s.data.toList)[i]? = some x := ⟨_, lQ6 (by rw [← HN.out]; exact h3)⟩
    refine (write_old w d F N M free fuse h s hs i n (i * 385) HN h3 rfl b boff cap zs hb h2 hf hf2 x (hidn hx)).mono ?_
    rintro e w' ⟨rfl, hD, hG⟩
    have e1 : wrD ⟨M, free, fuse⟩ s.data.toList i zs = (⟨upd M s.data.toList ((M s.data.toList).set i (x.wrote zs)), free, burnt fuse⟩, 0) := by
     unfold wrD
     rw [if_neg (by show ¬ (M s.data.toList).length < i; rw [← HN.out]; exact h1), if_neg h2]
     simp only [hx]
    rw [e1]
    exact ⟨rfl, F, DiskOf.mono hD (by omega), hG⟩
   ·
    have hin : i = n := by omega
    subst hin
    have hx : (M s.data.toList)[i]? = none := List.getElem?_eq_none (by rw [← HN.out]; omega)
    by_cases h4 : free = 0
    ·
     subst h4
     refine (write_full w d F N M fuse h s hs i HN _ cap h2 hf hf2).mono ?_
     rintro e w' ⟨rfl, hD, hG⟩
     have e1 : wrD ⟨M, 0, fuse⟩ s.data.toList i zs = (⟨M, 0, burnt fuse⟩, 4) := by
      unfold wrD
      rw [if_neg (by show ¬ (M s.data.toList).length < i; rw [← HN.out]; exact h1), if_neg h2]
      simp only [hx, if_true]
     rw [e1]
     exact ⟨rfl, F, DiskOf.mono hD (by omega), hG⟩
    ·
     refine (write_new w d F N M free fuse h s hs i (i * 385) HN rfl b boff cap zs hb h2 hf hf2 hn hNm (by omega) hfr).mono ?_
     rintro e w' ⟨rfl, F', hD, hG⟩
     have e1 : wrD ⟨M, free, fuse⟩ s.data.toList i zs = (⟨upd M s.data.toList (M s.data.toList ++ [zeroE.wrote zs]), free - 1, burnt fuse⟩, 0) := by
      unfold wrD
      rw [if_neg (by show ¬ (M s.data.toList).length < i; rw [← HN.out]; exact h1), if_neg h2]
      simp only [hx]
      rw [if_neg h4]
     rw [e1]
     exact ⟨rfl, F', hD, hG⟩
theorem write_st (w : World) (d : Nat) (F : Nat → Prop) (N : Nat) (st : St) (h : DiskS w d F N st) (s : ByteArray) (hs : nameB s.data.toList = true) (i n : Nat) (HN : Hid (n = (st.M s.data.toList).length)) (b cap : Nat) (zs : List Nat) (hb : BsF F w (some ⟨b, 0, none⟩) 128 zs) (hf : -1 ≤ st.fuse) (hf2 : st.fuse ≤ 9223372036854775807) (hn : n ≤ 1000000) (hNm : N < maxLen) (hfr0 : 0 ≤ st.free) (hfr : st.free ≤ 1000000) :
  Calls Tryz.prog 56 #[.pointer (some ⟨d, 0, none⟩), .string s, .int .i64 (i : Int), .slice (some ⟨b, 0, none⟩) 128 cap] w (WrPost w d F (N + 1) (wrD st s.data.toList i zs)) :=
 write_sto w d F N st h s hs i n HN b 0 cap zs hb hf hf2 hn hNm hfr0 hfr
theorem sync_st (w : World) (d : Nat) (F : Nat → Prop) (N : Nat) (st : St) (h : DiskS w d F N st) (s : ByteArray) (hsm : s.size ≤ maxLen) (hf : -1 ≤ st.fuse) (hf2 : st.fuse ≤ 9223372036854775807) :
  Calls Tryz.prog 45 #[.pointer (some ⟨d, 0, none⟩), .string s] w (WrPost w d F N (syD st s.data.toList)) := by
 by_cases h1 : st.M s.data.toList = []
 ·
  refine (sync_none w d F N st.M st.free st.fuse h s hsm h1).mono ?_
  rintro e w' ⟨rfl, rfl⟩
  have e1 : syD st s.data.toList = (st, 30) := by unfold syD; rw [if_pos h1]
  rw [e1]
  exact ⟨rfl, F, h, Gr.refl _ _⟩
 ·
  obtain ⟨M, free, fuse⟩ := st
  by_cases h2 : fuse = 0
  ·
   subst h2
   refine (sync_dead w d F N M free h s hsm h1).mono ?_
   rintro e w' ⟨rfl, rfl⟩
   have e1 : syD ⟨M, free, 0⟩ s.data.toList = (⟨M, free, 0⟩, 31) := by unfold syD; rw [if_neg h1, if_pos rfl]
   rw [e1]
   exact ⟨rfl, F, h, Gr.refl _ _⟩
  ·
   refine (sync_disk w d F N M free fuse h s hsm h1 h2 hf hf2).mono ?_
   rintro e w' ⟨rfl, hD, hG⟩
   have e1 : syD ⟨M, free, fuse⟩ s.data.toList = (⟨upd M s.data.toList ((M s.data.toList).map Ext.synced), free, burnt fuse⟩, 0) := by unfold syD; rw [if_neg h1, if_neg h2]
   rw [e1]
   exact ⟨rfl, F, hD, hG⟩
structure StOK (st : St) (k : Nat) : Prop where
 fuse : -1 ≤ st.fuse
 fuse2 : st.fuse ≤ 9223372036854775807
 free : 0 ≤ st.free
 free2 : st.free ≤ 1000000
 len : ∀ nm, (st.M nm).length ≤ k
theorem burnt_ok {f : Int} (h : -1 ≤ f) (h0 : f ≠ 0) (h2 : f ≤ 9223372036854775807) : -1 ≤ burnt f ∧ burnt f ≤ 9223372036854775807 := by
 unfold burnt
 split <;> omega
theorem upd_len {M : List UInt8 → List Ext} {k : Nat} (h : ∀ nm, (M nm).length ≤ k) (s : List UInt8) (l : List Ext) (hl : l.length ≤ k + 1) : ∀ nm, (upd M s l nm).length ≤ k + 1 := by
 intro nm
 unfold upd
 split
 ·
  exact hl
 ·
  have := h nm; omega
theorem StOK.mono {st : St} {k k' : Nat} (h : StOK st k) (hk : k ≤ k') : StOK st k' := ⟨h.fuse, h.fuse2, h.free, h.free2, fun nm => lQ1 (h.len nm) hk⟩
theorem StOK.wr {st : St} {k : Nat} (h : StOK st k) (nm : List UInt8) (i : Nat) (z : List Nat) : StOK (wrD st nm i z).1 (k + 1) := by
 unfold wrD
 split
 ·
  exact h.mono (by omega)
 ·
  split
  ·
   exact h.mono (by omega)
  ·
   next h0 =>
   have hb := burnt_ok h.fuse h0 h.fuse2
   split
   ·
    exact ⟨hb.1, hb.2, h.free, h.free2, upd_len h.len _ _ (by rw [List.length_set]; have := h.len nm; omega)⟩
   ·
    split
    ·
     exact ⟨hb.1, hb.2, h.free, h.free2, fun nm => by have := h.len nm; show (st.M nm).length ≤ k + 1; omega⟩
    ·
     next hf => exact ⟨hb.1, hb.2, by have := h.free; show 0 ≤ st.free - 1; omega, by have := h.free2; show st.free - 1 ≤ 1000000; omega, upd_len h.len _ _ (by rw [List.length_append, List.length_singleton]; have := h.len nm; omega)⟩
theorem StOK.sy {st : St} {k : Nat} (h : StOK st k) (nm : List UInt8) : StOK (syD st nm).1 k := by
 unfold syD
 split
 ·
  exact h
 ·
  split
  ·
   exact h
  ·
   next h0 =>
   have hb := burnt_ok h.fuse h0 h.fuse2
   refine ⟨hb.1, hb.2, h.free, h.free2, fun t => ?_⟩
   show (upd st.M nm ((st.M nm).map Ext.synced) t).length ≤ k
   unfold upd
   split
   ·
    rw [List.length_map]; exact h.len nm
   ·
    exact h.len t
end Go.Proofs.YtdppolelakbbiaaGreatDoor

namespace Go.Proofs.YtdppolelakbbiaaGreatDoor
open Go.RowKit Go.Maps
set_option linter.unusedVariables false
def wrStep (s : ByteArray) (g : Nat) (acc : St × Int) (q : List Nat × Nat) : St × Int :=
 if acc.2 = 0 then wrD acc.1 s.data.toList q.2 (frameB (nums s) q.2 g q.1) else acc
def wrAll (st : St) (s : ByteArray) (at' g : Nat) (ps : List (List Nat)) : St × Int := (ps.zipIdx at').foldl (wrStep s g) (st, 0)
theorem wrAll_snoc (st : St) (s : ByteArray) (at' g : Nat) (ps : List (List Nat)) (p : List Nat) : wrAll st s at' g (ps ++ [p]) = wrStep s g (wrAll st s at' g ps) (p, at' + ps.length) := by
 unfold wrAll
 rw [List.zipIdx_append, List.foldl_append]
 rfl
theorem wrStep_stuck (s : ByteArray) (g : Nat) : ∀ (l : List (List Nat × Nat)) (acc : St × Int), acc.2 ≠ 0 → l.foldl (wrStep s g) acc = acc
 | [], acc, _ => rfl
 | q :: l, acc, h => by
  rw [List.foldl_cons, show wrStep s g acc q = acc from by unfold wrStep; rw [if_neg h]]
  exact wrStep_stuck s g l acc h
theorem wrAll_stuck (s : ByteArray) (g : Nat) (st : St) (at' : Nat) (ps : List (List Nat)) (h : (wrAll st s at' g ps).2 ≠ 0) (qs : List (List Nat)) : wrAll st s at' g (ps ++ qs) = wrAll st s at' g ps := by
 unfold wrAll at h ⊢
 rw [List.zipIdx_append, List.foldl_append]
 exact wrStep_stuck s g _ _ h
def halfD (st : St) (s : ByteArray) (at' g : Nat) (ps : List (List Nat)) : St × Int :=
 if (wrAll st s at' g ps).2 = 0 then syD (wrAll st s at' g ps).1 s.data.toList else wrAll st s at' g ps
theorem StOK.fold (s : ByteArray) (g : Nat) : ∀ (l : List (List Nat × Nat)) (acc : St × Int) (k : Nat), StOK acc.1 k → StOK (l.foldl (wrStep s g) acc).1 (k + l.length)
 | [], acc, k, h => h
 | q :: l, acc, k, h => by
  rw [List.foldl_cons, List.length_cons, show k + (l.length + 1) = k + 1 + l.length from by omega]
  refine StOK.fold s g l _ _ ?_
  unfold wrStep
  split
  ·
   exact h.wr _ _ _
  ·
   exact h.mono (by omega)
theorem StOK.all {st : St} {k : Nat} (h : StOK st k) (s : ByteArray) (at' g : Nat) (ps : List (List Nat)) : StOK (wrAll st s at' g ps).1 (k + ps.length) := by
 have := StOK.fold s g (ps.zipIdx at') (st, 0) k h
 rw [List.length_zipIdx] at this
 exact this
end Go.Proofs.YtdppolelakbbiaaGreatDoor

namespace Go.Proofs.YtdppolelakbbiaaGreatDoor
open Go.RowKit Go.Maps
set_option linter.unusedVariables false
theorem WrPost.open {w w' : World} {d N : Nat} {F : Nat → Prop} {st : St} {v : Int} {e : Ending} (h : WrPost w d F N (st, v) e w') : e = .returned (.int .i64 v) ∧ ∃ F', DiskS w' d F' N st ∧ Gr F F' w w' := h
def put1 (st : St) (s : ByteArray) (i g : Nat) (p : List Nat) : St × Int :=
 if (wrD st s.data.toList i (frameB (nums s) i g p)).2 = 0 then syD (wrD st s.data.toList i (frameB (nums s) i g p)).1 s.data.toList else wrD st s.data.toList i (frameB (nums s) i g p)
def putD (st : St) (s : ByteArray) (i g : Nat) (p : List Nat) : St × Int :=
 if (put1 st (fileA s) i g p).2 = 0 then put1 (put1 st (fileA s) i g p).1 (fileB s) i g p else put1 st (fileA s) i g p
theorem put1_w {st s1 : St} {s : ByteArray} {i g : Nat} {p z : List Nat} {v : Int} (hz : z = frameB (nums s) i g p) (h : (s1, v) = wrD st s.data.toList i z) (h0 : v ≠ 0) : put1 st s i g p = (s1, v) := by
 unfold put1
 rw [← hz, ← h, if_neg h0]
theorem put1_s {st s1 s2 : St} {s : ByteArray} {i g : Nat} {p z : List Nat} {v : Int} (hz : z = frameB (nums s) i g p) (h : (s1, 0) = wrD st s.data.toList i z) (h2 : (s2, v) = syD s1 s.data.toList) : put1 st s i g p = (s2, v) := by
 unfold put1
 rw [← hz, ← h, if_pos rfl, h2]
theorem putD_a {st s1 : St} {s : ByteArray} {i g : Nat} {p : List Nat} {v : Int} (h : put1 st (fileA s) i g p = (s1, v)) (h0 : v ≠ 0) : putD st s i g p = (s1, v) := by
 unfold putD
 rw [h, if_neg h0]
theorem putD_b {st s1 s2 : St} {s : ByteArray} {i g : Nat} {p : List Nat} {v : Int} (h : put1 st (fileA s) i g p = (s1, 0)) (h2 : put1 s1 (fileB s) i g p = (s2, v)) : putD st s i g p = (s2, v) := by
 unfold putD
 rw [h, if_pos rfl, h2]
set_option maxHeartbeats 1000000 in
theorem pairWrite_st (w : World) (d : Nat) (F : Nat → Prop) (N : Nat) (st : St) (h : DiskS w d F N st) (hS : Sound5 w F) (K : Nat) (hok : StOK st K) (hK : K ≤ 1000000) (hN : N < maxLen) (s : ByteArray) (hs : nameB s.data.toList = true) (i g : Nat) (hi2 : i ≤ 2147483647)
  (a : Option Addr) (len cap : Nat) (p fz : List Nat) (hB : Bs w a len p) (hl : len ≤ 106) (hg : g ≤ 4611686018427387904) (HF : Hid (fz = frameB (nums s) i g p)) :
  Calls Tryz.prog 44 #[.pointer (some ⟨d, 0, none⟩), .string s, .int .i64 i, .int .i64 g, .slice a len cap] w (WrPost w d F (N + 1) (wrD st s.data.toList i fz)) := by
 have hsm : s.size ≤ maxLen := by have := (name_size hs).2; unfold maxLen; omega
 have HSN := hidn hs
 have HOK := hidn hok
 clear hs
 obtain ⟨r, hr⟩ : ∃ r, r = wrD st s.data.toList i fz := ⟨_, rfl⟩
 rw [← hr]
 have HR := hidn hr
 clear hr
 obtain ⟨st', rv⟩ := r
 go_enter Tryz.func44, Tryz.ntmps44
 go_wp2_with fail
 refine (frame_bs s i g i g rfl rfl a len cap p _ hB hS.tab hsm hi2 hg hl fz HF).mono ?_
 rintro e w1 ⟨b, rfl, hb, _, hB1, hb1⟩
 have HW := hidn (write_st w1 d F N st (h.below hb1) s HSN.out i _ (hidn rfl) b 128 fz (BsF.fresh hB1 hb hS.lt) HOK.out.fuse HOK.out.fuse2 (lQ1 (HOK.out.len _) hK) hN HOK.out.free HOK.out.free2)
 rw [← HR.out] at HW
 go_wp2_with fail
 refine HW.out.mono ?_
 clear HW
 rintro e w2 hw2
 obtain ⟨rfl, F2, hD2, hG2⟩ := WrPost.open hw2
 clear hw2
 go_wp2
 go_ret
 exact ⟨rfl, F2, hD2, (Gr.of (Keeps.of_below hb1)).trans hG2⟩
set_option maxHeartbeats 2000000 in
theorem put_st (w : World) (d : Nat) (F : Nat → Prop) (N : Nat) (st : St) (h : DiskS w d F N st) (hS : Sound5 w F) (K : Nat) (hok : StOK st K) (hK : K + 2 ≤ 1000000) (hN : N + 2 < maxLen) (hM0 : st.M [] = []) (s : ByteArray) (hs : s.size ≤ 1000) (hnA : nameB (fileA s).data.toList = true) (hnB : nameB (fileB s).data.toList = true)
  (i g : Nat) (hi : i ≤ 2147483647) (hg : g ≤ 4611686018427387904) (a : Option Addr) (len cap : Nat) (p : List Nat) (hBz : BsF F w a len p) (hlen : len ≤ 106) :
  Calls Tryz.prog 10 #[.pointer (some ⟨d, 0, none⟩), .string s, .int .i64 i, .int .i64 g, .slice a len cap] w (WrPost w d F (N + 2) (putD st s i g p)) := by
 have HD := hidn h
 have HS := hidn hS
 have HOK := hidn hok
 have HnA := hidn hnA
 have HnB := hidn hnB
 have HBz := hidn hBz
 have hHv := fun wx => halves_any wx s hs
 clear hnA hnB hBz h hS hok
 go_enter Tryz.func10, Tryz.ntmps10
 go_wp2_with fail
 refine (pairMade _ d F N st.M st.free st.fuse HD.out hM0).mono ?_
 rintro e w1 ⟨rfl, hb1⟩
 go_wp2_with fail
 refine (hHv _).mono ?_
 rintro e w4 ⟨rfl, hb4⟩
 have hb14 : Below w.heap.size w w4 := hb1.trans (hb4.mono hb1.size)
 have HD4 := hidn (HD.out.below hb14)
 have HG4 := hidn (Gr.of (Keeps.of_below (F := F) hb14))
 clear hb1 hb4 hb14 hHv HD
 obtain ⟨fa, hfa⟩ : ∃ fa, fa = fileA s := ⟨_, rfl⟩
 obtain ⟨fb, hfb⟩ : ∃ fb, fb = fileB s := ⟨_, rfl⟩
 rw [← hfa] at HnA
 rw [← hfb] at HnB
 rw [← hfa, ← hfb]
 have HFA := hidn hfa
 have HFB := hidn hfb
 obtain ⟨za, hza⟩ : ∃ za, za = frameB (nums fa) i g p := ⟨_, rfl⟩
 obtain ⟨zb, hzb⟩ : ∃ zb, zb = frameB (nums fb) i g p := ⟨_, rfl⟩
 have HZA := hidn hza
 have HZB := hidn hzb
 clear hfa hfb hza hzb
 have hsA : fa.size ≤ maxLen := by have := (name_size HnA.out).2; unfold maxLen; omega
 have hsB : fb.size ≤ maxLen := by have := (name_size HnB.out).2; unfold maxLen; omega
 have hi0 : ∀ wx : World, (Instr.index 84 (.agg #[.string fa, .string fb]) (.int .i64 0)).run Tryz.prog wx = .ok (.string fa) wx := fun wx => by kernel_rfl
 have hi1 : ∀ wx : World, (Instr.index 84 (.agg #[.string fa, .string fb]) (.int .i64 1)).run Tryz.prog wx = .ok (.string fb) wx := fun wx => by kernel_rfl
 go_wp2_with fail
 go_loopw [20] (fun iv wr => ∃ (k : Nat) (F' : Nat → Prop) (stk : St), k ≤ 2 ∧ iv = .int .i64 k ∧ Hid (Gr F F' w wr) ∧ Hid (DiskS wr d F' (N + k) stk) ∧ Hid (StOK stk (K + k)) ∧ ((k = 0 ∧ Hid (stk = st)) ∨ (k = 1 ∧ Hid (put1 st fa i g p = (stk, 0))) ∨ (k = 2 ∧ Hid (putD st s i g p = (stk, 0))))) (fun iv _ => 2 - (intOf iv).toNat)
 case atStart => exact ⟨0, F, st, by omega, rfl, HG4, HD4, HOK, Or.inl ⟨rfl, hidn rfl⟩⟩
 case round =>
  clear HD4 HG4 HOK
  obtain ⟨k, F', stk, hk, rfl, HGk, HDk, HOk, (⟨rfl, HK⟩ | ⟨rfl, HK⟩ | ⟨rfl, HK⟩)⟩ := hrel
  ·
   obtain rfl := HK.out
   obtain ⟨q, hq⟩ : ∃ q, q = wrD stk fa.data.toList i za := ⟨_, rfl⟩
   have HW := hidn (pairWrite_st wr d F' (N + 0) stk HDk.out (HS.out.gr HGk.out) (K + 0) HOk.out (by omega) (by omega) fa HnA.out i g hi a len cap p za (HBz.out.gr HGk.out).1 hlen hg HZA)
   have hok1 := HOk.out.wr fa.data.toList i za
   rw [← hq] at HW hok1
   have HQ := hidn hq
   clear hq
   obtain ⟨s1, v1⟩ := q
   have HO1 := hidn hok1
   clear hok1
   go_wp2_with fail
   refine HW.out.mono ?_
   clear HW
   rintro e w6 hw6
   obtain ⟨rfl, F6, hD6, hG6⟩ := WrPost.open hw6
   have HD6 := hidn hD6
   have HG6 := hidn (HGk.out.trans hG6)
   clear hD6 hG6 hw6
   by_cases h0 : v1 = 0
   ·
    subst h0
    obtain ⟨q2, hq2⟩ : ∃ q, q = syD s1 fa.data.toList := ⟨_, rfl⟩
    have HSY := hidn (sync_st w6 d F6 (N + 0 + 1) s1 HD6.out fa hsA HO1.out.fuse HO1.out.fuse2)
    have hok2 := HO1.out.sy fa.data.toList
    rw [← hq2] at HSY hok2
    have HQ2 := hidn hq2
    clear hq2
    obtain ⟨s2, v2⟩ := q2
    have HO7 : Hid (StOK s2 (K + 1)) := hidn hok2
    clear hok2
    go_wp2_with fail
    refine HSY.out.mono ?_
    clear HSY
    rintro e w7 hw7
    obtain ⟨rfl, F7, hD7, hG7⟩ := WrPost.open hw7
    have HD7 : Hid (DiskS w7 d F7 (N + 1) s2) := hidn hD7
    have HG7 := hidn (HG6.out.trans hG7)
    clear hD7 hG7 hw7
    by_cases h2 : v2 = 0
    ·
     subst h2
     have HP : Hid (put1 stk fa i g p = (s2, 0)) := hidn ((put1_s (z := za) HZA.out HQ.out HQ2.out))
     go_wp2
     go_roundw
     case rel => exact ⟨1, F7, s2, by omega, by first | rfl | go_num | simp, HG7, HD7, HO7, Or.inr (Or.inl ⟨rfl, HP⟩)⟩
     case measure => simp [intOf]
    ·
     have h2' : (v2 != 0) = true := bne_iff_ne.2 h2
     have HP := hidn (putD_a (HFA.out ▸ (put1_s (z := za) HZA.out HQ.out HQ2.out)) h2)
     go_wp2
     go_ret
     rw [HP.out]
     exact ⟨rfl, F7, HD7.out.mono (by omega), HG7.out⟩
   ·
    have h0' : (v1 != 0) = true := bne_iff_ne.2 h0
    have HP := hidn (putD_a (HFA.out ▸ (put1_w (z := za) HZA.out HQ.out h0)) h0)
    go_wp2
    go_ret
    rw [HP.out]
    exact ⟨rfl, F6, HD6.out.mono (by omega), HG6.out⟩
  ·
   skip
   obtain ⟨q, hq⟩ : ∃ q, q = wrD stk fb.data.toList i zb := ⟨_, rfl⟩
   have HW := hidn (pairWrite_st wr d F' (N + 1) stk HDk.out (HS.out.gr HGk.out) (K + 1) HOk.out (by omega) (by omega) fb HnB.out i g hi a len cap p zb (HBz.out.gr HGk.out).1 hlen hg HZB)
   have hok1 := HOk.out.wr fb.data.toList i zb
   rw [← hq] at HW hok1
   have HQ := hidn hq
   clear hq
   obtain ⟨s1, v1⟩ := q
   have HO1 := hidn hok1
   clear hok1
   go_wp2_with fail
   refine HW.out.mono ?_
   clear HW
   rintro e w6 hw6
   obtain ⟨rfl, F6, hD6, hG6⟩ := WrPost.open hw6
   have HD6 := hidn hD6
   have HG6 := hidn (HGk.out.trans hG6)
   clear hD6 hG6 hw6
   by_cases h0 : v1 = 0
   ·
    subst h0
    obtain ⟨q2, hq2⟩ : ∃ q, q = syD s1 fb.data.toList := ⟨_, rfl⟩
    have HSY := hidn (sync_st w6 d F6 (N + 1 + 1) s1 HD6.out fb hsB HO1.out.fuse HO1.out.fuse2)
    have hok2 := HO1.out.sy fb.data.toList
    rw [← hq2] at HSY hok2
    have HQ2 := hidn hq2
    clear hq2
    obtain ⟨s2, v2⟩ := q2
    have HO7 : Hid (StOK s2 (K + 2)) := hidn hok2
    clear hok2
    go_wp2_with fail
    refine HSY.out.mono ?_
    clear HSY
    rintro e w7 hw7
    obtain ⟨rfl, F7, hD7, hG7⟩ := WrPost.open hw7
    have HD7 : Hid (DiskS w7 d F7 (N + 2) s2) := hidn hD7
    have HG7 := hidn (HG6.out.trans hG7)
    clear hD7 hG7 hw7
    by_cases h2 : v2 = 0
    ·
     subst h2
     have HP : Hid (putD st s i g p = (s2, 0)) := hidn (putD_b (HFA.out ▸ HK.out) (HFB.out ▸ (put1_s (z := zb) HZB.out HQ.out HQ2.out)))
     go_wp2
     go_roundw
     case rel => exact ⟨2, F7, s2, by omega, by first | rfl | go_num | simp, HG7, HD7, HO7, Or.inr (Or.inr ⟨rfl, HP⟩)⟩
     case measure => simp [intOf]
    ·
     have h2' : (v2 != 0) = true := bne_iff_ne.2 h2
     have HP := hidn (putD_b (HFA.out ▸ HK.out) (HFB.out ▸ (put1_s (z := zb) HZB.out HQ.out HQ2.out)))
     go_wp2
     go_ret
     rw [HP.out]
     exact ⟨rfl, F7, HD7.out.mono (by omega), HG7.out⟩
   ·
    have h0' : (v1 != 0) = true := bne_iff_ne.2 h0
    have HP := hidn (putD_b (HFA.out ▸ HK.out) (HFB.out ▸ (put1_w (z := zb) HZB.out HQ.out h0)))
    go_wp2
    go_ret
    rw [HP.out]
    exact ⟨rfl, F6, HD6.out.mono (by omega), HG6.out⟩
  ·
   go_wp2
   go_ret
   rw [HK.out]
   exact ⟨rfl, F', HDk.out, HGk.out⟩
end Go.Proofs.YtdppolelakbbiaaGreatDoor
