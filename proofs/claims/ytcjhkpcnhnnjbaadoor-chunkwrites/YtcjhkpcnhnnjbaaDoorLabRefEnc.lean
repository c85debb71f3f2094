/- dryrotref07.Encode: a contract at every list of labels. -/
import Derived.Test.YtcjhkpcnhnnjbaaDoorLabEnc
import Derived.Test.YtcjhkpcnhnnjbaaDoorMi
namespace Go.Proofs.YtcjhkpcnhnnjbaaDoor
open Go.RowKit
set_option linter.unusedVariables false

theorem app_run {o : Oper} {a : Act} {w w' : World} {t u : TypeId} {x y : Operand} {vx vy v : Value} (ho : o.op = .call { callee := .builtin .append, args := #[x, y], argTypes := #[t, u] }) (hx : a.eval x = vx) (hy : a.eval y = vy) (hr : (Builtin.append_ #[t, u] o.type #[vx, vy]).run Tryd.prog w = .ok v w') : (execOp a.eval o).run Tryd.prog w = .ok (.value v) w' := by
  unfold execOp
  simp only [ho, resolve, invoke, builtin, Sem.run_bind, Sem.run_pure, Result.andThen_ok, List.map_toArray, List.map_cons, List.map_nil, hx, hy, hr]
set_option maxHeartbeats 2000000 in
theorem renc_no (a : Option Addr) (len cap : Nat) (ls : List Lab) (w : World) (h : Ls w a len ls) (hr : len ≤ 140737488355328) (hc : canOK ls = false) :
    Calls Tryd.prog 31 #[.slice a len cap] w fun e w' => e = .returned (.tuple #[.slice none 0 0, .int .i64 1]) ∧ Below w.heap.size w w' := by
  go_enter Tryd.func31, Tryd.ntmps31
  go_wp2_with fail
  refine (refCan_any a len cap ls _ h hr).mono ?_
  rintro e w1 ⟨rfl, hb⟩
  rw [hc]
  go_wp2
  go_ret2
  exact ⟨rfl, hb⟩

set_option maxHeartbeats 4000000 in
set_option maxRecDepth 100000 in
theorem renc_yes (a : Option Addr) (len cap : Nat) (ls : List Lab) (w : World) (h : Ls w a len ls) (hr : len ≤ 140737488355328) (hc : canOK ls = true) :
    Calls Tryd.prog 31 #[.slice a len cap] w fun e w' => ∃ g c, e = .returned (.tuple #[.slice (some ⟨g, 0, none⟩) (encN ls).length c, .int .i64 0]) ∧ w.heap.size ≤ g ∧ (encN ls).length ≤ c ∧ c ≤ maxLen ∧ Bs w' (some ⟨g, 0, none⟩) (encN ls).length (encN ls) ∧ w'.ownsRowF w.heap.size 5 1 (.slice (some ⟨g, 0, none⟩) (encN ls).length c) (encN ls).length (vb (encN ls)) ∧ Below w.heap.size w w' := by
  obtain ⟨i0, hi, hz0, hz1, hz2⟩ := info_parts bInfo
  have hl := hidn h.1
  have h8 := ((canOK_iff ls).1 hc).2.1
  have h0 := ((canOK_iff ls).1 hc).1
  rw [hl.out] at h8 h0
  obtain ⟨b, off, rfl, hbw, hcell⟩ := h.pos h0
  have hH := hidn h
  have hwr : IntKind.u8.wrap (len : Int) = (len : Int) := by rw [IntKind.wrap_u8]; omega
  go_enter Tryd.func31, Tryd.ntmps31
  go_wp2_with fail
  refine (refCan_any _ len cap ls _ h hr).mono ?_
  rintro e w1 ⟨rfl, hb1⟩
  have hc' := hidn hc
  have hsz0 : w.heap.size ≤ w1.heap.size := hb1.size
  rw [hc]
  clear h hc
  go_wp2
  go_loopw [4, 16] (fun v i wr => ∃ (k : Nat) (vv : Value), k ≤ len ∧ i = .int .i64 k ∧ v = vv ∧ wr.ownsRowF w1.heap.size 5 1 vv (encTo ls k).length (vb (encTo ls k)) ∧ w1.heap.size < wr.heap.size ∧ Below w1.heap.size w1 wr) (fun _ i wr => len - (intOf i).toNat)
  case atStart =>
    refine ⟨0, _, Nat.zero_le _, rfl, rfl, ?_, by simp, (Below.refl _ _).alloc (Nat.le_refl _) _⟩
    have := World.ownsRowF_of (World.ownsRow_lit (base := w1.heap.size) (e := 5) (size := 1) w1 #[.int .u8 (len : Int)] 1 (Nat.le_refl _) (by decide) rfl)
    simp only [encTo, hl.out]
    exact this
  case round =>
    obtain ⟨k, vv, hk, rfl, rfl, hown, hsz, hbl⟩ := hrel
    have hbl0 : Below w.heap.size w wr := hb1.trans (hbl.mono hsz0)
    by_cases hlt : k < len
    · obtain ⟨c0, c1⟩ := hcell k hlt
      have c0' : wr.cell? ⟨b, off + k * 2, none⟩ = some (.string (labD ls k).1) := (hbl0.cell (p := ⟨b, off + k * 2, none⟩) hbw).trans c0
      have c1' : wr.cell? ⟨b, off + k * 2 + 1, none⟩ = some (.string (labD ls k).2) := (hbl0.cell (p := ⟨b, off + k * 2 + 1, none⟩) hbw).trans c1
      obtain ⟨z1, z2⟩ := can_sizes ls hc'.out k (by rw [hl.out]; exact hlt)
      have hln := encTo_len ls hc'.out k (by rw [hl.out]; omega)
      have hnext : Hid (encTo ls (k + 1) = encTo ls k ++ (([(labD ls k).1.size] ++ sN (labD ls k).1) ++ ([(labD ls k).2.size] ++ sN (labD ls k).2))) := hidn rfl
      clear c0 c1
      generalize hn0 : (labD ls k).1 = n0 at *
      generalize hv0 : (labD ls k).2 = v0 at *
      generalize ht0 : encTo ls k = t0 at *
      clear hn0 hv0 ht0
      have hown0 := hown.alloc (.cells #[.string n0, .string v0] 72)
      have hq0 := alloc_at wr (.cells #[.string n0, .string v0] 72)
      have hbl2 := hbl.alloc (by omega) (.cells #[.string n0, .string v0] 72)
      have hs2 : w1.heap.size ≤ (wr.alloc (.cells #[.string n0, .string v0] 72)).heap.size := by rw [alloc_size]; omega
      have HBL2 := hidn hbl2
      generalize hW0 : wr.alloc (.cells #[.string n0, .string v0] 72) = W0 at *
      generalize hbx : wr.heap.size = bx at *
      go_wp2
      have qd1 : W0.drew.heap[bx]? = some (.cells #[.string n0, .string v0] 72 (0, 0)) := hq0
      have cd1 : W0.drew.cell? ⟨bx, 0, none⟩ = some (.string n0) := cell_at qd1
      have od1 : W0.drew.ownsRowF w1.heap.size 5 1 u4 t0.length (vb t0) := hown0
      have sd1 : w1.heap.size ≤ W0.drew.heap.size := hs2
      have ks1 : Below w1.heap.size W0 W0.drew := (Below.refl _ _).drew
      generalize hwd1 : W0.drew = wd1 at *
      refine wp_region_noPanic ?_
      refine wp_region_held_drew (S := fun w' => w'.cell? ⟨bx, 0, none⟩ = some (.string n0)) (by kernel_rfl) (by rw [hwd1]; exact cd1) (fun hHeld => ?_)
      rw [hwd1] at hHeld ⊢
      have hwr1 : IntKind.u8.wrap (n0.size : Int) = (n0.size : Int) := by rw [IntKind.wrap_u8]; omega
      refine drawn_take (i := 0) (v := u4) (some 20) rfl rfl (by kernel_rfl) (by kernel_rfl) (by kernel_rfl) (fun _ _ _ h => h) (Or.inl ⟨by kernel_rfl, fun wq hw => by go_simp⟩) hHeld ?_
      simp only [Act.put, List.setIfInBounds_toArray, List.set_cons_succ, List.set_cons_zero]
      refine drawn_take (i := 1) (v := .pointer (some ⟨bx, 0, none⟩)) (some 21) rfl rfl (by kernel_rfl) (by kernel_rfl) (by kernel_rfl) (fun _ _ _ h => h) (Or.inl ⟨by kernel_rfl, fun wq hw => by go_simp⟩) hHeld ?_
      simp only [Act.put, List.setIfInBounds_toArray, List.set_cons_succ, List.set_cons_zero]
      refine drawn_take (i := 2) (v := .string n0) (some 22) rfl rfl (by kernel_rfl) (by kernel_rfl) (by kernel_rfl) (fun _ _ _ h => h) (Or.inl ⟨by kernel_rfl, fun wq hw => by go_simp⟩) hHeld ?_
      simp only [Act.put, List.setIfInBounds_toArray, List.set_cons_succ, List.set_cons_zero]
      refine drawn_take (i := 3) (v := .int .i64 (n0.size : Int)) (some 23) rfl rfl (by kernel_rfl) (by kernel_rfl) (by kernel_rfl) (fun _ _ _ h => h) (Or.inl ⟨by kernel_rfl, fun wq hw => by go_simp⟩) hHeld ?_
      simp only [Act.put, List.setIfInBounds_toArray, List.set_cons_succ, List.set_cons_zero]
      refine drawn_take (i := 4) (v := .int .u8 (n0.size : Int)) (some 24) rfl rfl (by kernel_rfl) (by kernel_rfl) (by kernel_rfl) (fun _ _ _ h => h) (Or.inl ⟨by kernel_rfl, fun wq hw => by go_simp⟩) hHeld ?_
      simp only [Act.put, List.setIfInBounds_toArray, List.set_cons_succ, List.set_cons_zero]
      refine drawn_take (i := 7) (v := .pointer (some ⟨bx, 0, none⟩)) (some 27) rfl rfl (by kernel_rfl) (by kernel_rfl) (by kernel_rfl) (fun _ _ _ h => h) (Or.inl ⟨by kernel_rfl, fun wq hw => by go_simp⟩) hHeld ?_
      simp only [Act.put, List.setIfInBounds_toArray, List.set_cons_succ, List.set_cons_zero]
      refine drawn_take (i := 8) (v := .string n0) (some 28) rfl rfl (by kernel_rfl) (by kernel_rfl) (by kernel_rfl) (fun _ _ _ h => h) (Or.inl ⟨by kernel_rfl, fun wq hw => by go_simp⟩) hHeld ?_
      simp only [Act.put, List.setIfInBounds_toArray, List.set_cons_succ, List.set_cons_zero]
      refine wpAnyH_ready (rs := [5]) (by kernel_rfl) (by simp) ?_
      refine rdy_val (i := 5) rfl rfl (some 25) rfl (.slice (some ⟨wd1.heap.size, 0, none⟩) 1 1) (wd1.alloc (.cells #[.int .u8 (n0.size : Int)] 5)) (by go_simp) (Lib.cell?_alloc_some _ hHeld) (fun hHeld => ?_) rdy_nil
      simp only [Act.put, List.setIfInBounds_toArray, List.set_cons_succ, List.set_cons_zero]
      obtain ⟨va1, wa1, hr1, oa1, ga1, _⟩ := run_append_ownF (P := Tryd.prog) (wd1.alloc (.cells #[.int .u8 (n0.size : Int)] 5)) w1.heap.size 24 24 5 i0 (.int .u8 0) 1 1 Tryd.underlying24 hi hz0 hz1 hz2 rfl (by decide) u4 t0.length (vb t0) (od1.alloc _) ⟨wd1.heap.size, 0, none⟩ 1 1 [.int .u8 (n0.size : Int)] rfl (by intro j u hj; match j, hj with | 0, hj => simp at hj; subst hj; simp [Addr.add]) (by intro u hu; simp at hu; subst hu; rfl) (by unfold maxLen; omega) (by omega) (by rw [alloc_size]; omega)
      have qa1 : wa1.heap[bx]? = some (.cells #[.string n0, .string v0] 72 (0, 0)) := (((Lib.OthersKept.refl 5 none wd1).alloc _).grown ga1 (Lib.ownsRowF_kind (od1.alloc _))) _ _ qd1 (fun h => by cases h) (fun c f h => by cases h)
      have ka1 : Below w1.heap.size wd1 wa1 := ((Below.refl w1.heap.size wd1).alloc sd1 _).grown ga1 (by rw [alloc_size]; omega) (fun k hk => (od1.lt k hk).1)
      have sa1 : w1.heap.size ≤ wa1.heap.size := Nat.le_trans sd1 ka1.size
      refine wpAnyH_ready (rs := [6]) (by kernel_rfl) (by simp) ?_
      refine rdy_val (i := 6) rfl rfl (some 26) rfl va1 wa1 (app_run (x := .tmp 20) (y := .tmp 25) (by kernel_rfl) (by kernel_rfl) (by kernel_rfl) hr1) (cell_at qa1) (fun hHeld => ?_) rdy_nil
      simp only [Act.put, List.setIfInBounds_toArray, List.set_cons_succ, List.set_cons_zero]
      obtain ⟨vb1, wb1, hs1, ob1, gb1, _⟩ := Lib.run_append_own_stringF (P := Tryd.prog) wa1 w1.heap.size 24 9 24 5 i0 Tryd.underlying24 Tryd.underlying9 hi hz0 hz1 hz2 va1 _ _ oa1 n0 (by unfold maxLen; omega) (by omega) sa1
      have qb1 : wb1.heap[bx]? = some (.cells #[.string n0, .string v0] 72 (0, 0)) := ((Lib.OthersKept.refl 5 none wa1).grown gb1 (Lib.ownsRowF_kind oa1)) _ _ qa1 (fun h => by cases h) (fun c f h => by cases h)
      have kb1 : Below w1.heap.size wa1 wb1 := (Below.refl w1.heap.size wa1).grown gb1 sa1 (fun k hk => (oa1.lt k hk).1)
      have sb1 : w1.heap.size ≤ wb1.heap.size := Nat.le_trans sa1 kb1.size
      refine wpAnyH_ready (rs := [9]) (by kernel_rfl) (by simp) ?_
      refine rdy_val (i := 9) rfl rfl (some 29) rfl vb1 wb1 (app_run (x := .tmp 26) (y := .tmp 28) (by kernel_rfl) (by kernel_rfl) (by kernel_rfl) hs1) (cell_at qb1) (fun hHeld => ?_) rdy_nil
      simp only [Act.put, List.setIfInBounds_toArray, List.set_cons_succ, List.set_cons_zero]
      refine drawn_take (i := 10) (v := vb1) (some 4) rfl rfl (by kernel_rfl) (by kernel_rfl) (by kernel_rfl) (fun _ _ _ h => h) (Or.inl ⟨by kernel_rfl, fun wq hw => by go_simp⟩) hHeld ?_
      simp only [Act.put, List.setIfInBounds_toArray, List.set_cons_succ, List.set_cons_zero]
      refine wpAnyH_done (by kernel_rfl) ?_ _
      refine NoPanic.normal ?_
      clear hHeld
      have OF1 : Hid (wb1.ownsRowF w1.heap.size 5 1 vb1 (t0.length + 1 + n0.size) (vb (t0 ++ ([n0.size] ++ sN n0)))) := hidn (by rw [vb_append t0 _, vb_append [n0.size] _, vb_sN, ← List.append_assoc]; exact ob1)
      have KF1 : Below w1.heap.size W0 wb1 := (ks1.trans ka1).trans kb1
      clear hr1 hs1 oa1 ob1 ga1 gb1 qa1 ka1 kb1 od1 cd1 qd1
      go_wp2
      have qd2 : wb1.drew.heap[bx]? = some (.cells #[.string n0, .string v0] 72 (0, 0)) := qb1
      have cd2 : wb1.drew.cell? ⟨bx, 1, none⟩ = some (.string v0) := cell_at qd2
      have od2 : wb1.drew.ownsRowF w1.heap.size 5 1 vb1 (t0.length + 1 + n0.size) (vb (t0 ++ ([n0.size] ++ sN n0))) := OF1.out
      have sd2 : w1.heap.size ≤ wb1.drew.heap.size := sb1
      have ks2 : Below w1.heap.size wb1 wb1.drew := (Below.refl _ _).drew
      generalize hwd2 : wb1.drew = wd2 at *
      refine wp_region_noPanic ?_
      refine wp_region_held_drew (S := fun w' => w'.cell? ⟨bx, 1, none⟩ = some (.string v0)) (by kernel_rfl) (by rw [hwd2]; exact cd2) (fun hHeld => ?_)
      rw [hwd2] at hHeld ⊢
      have hwr2 : IntKind.u8.wrap (v0.size : Int) = (v0.size : Int) := by rw [IntKind.wrap_u8]; omega
      refine drawn_take (i := 0) (v := vb1) (some 30) rfl rfl (by kernel_rfl) (by kernel_rfl) (by kernel_rfl) (fun _ _ _ h => h) (Or.inl ⟨by kernel_rfl, fun wq hw => by go_simp⟩) hHeld ?_
      simp only [Act.put, List.setIfInBounds_toArray, List.set_cons_succ, List.set_cons_zero]
      refine drawn_take (i := 1) (v := .pointer (some ⟨bx, 1, none⟩)) (some 31) rfl rfl (by kernel_rfl) (by kernel_rfl) (by kernel_rfl) (fun _ _ _ h => h) (Or.inl ⟨by kernel_rfl, fun wq hw => by go_simp⟩) hHeld ?_
      simp only [Act.put, List.setIfInBounds_toArray, List.set_cons_succ, List.set_cons_zero]
      refine drawn_take (i := 2) (v := .string v0) (some 32) rfl rfl (by kernel_rfl) (by kernel_rfl) (by kernel_rfl) (fun _ _ _ h => h) (Or.inl ⟨by kernel_rfl, fun wq hw => by go_simp⟩) hHeld ?_
      simp only [Act.put, List.setIfInBounds_toArray, List.set_cons_succ, List.set_cons_zero]
      refine drawn_take (i := 3) (v := .int .i64 (v0.size : Int)) (some 33) rfl rfl (by kernel_rfl) (by kernel_rfl) (by kernel_rfl) (fun _ _ _ h => h) (Or.inl ⟨by kernel_rfl, fun wq hw => by go_simp⟩) hHeld ?_
      simp only [Act.put, List.setIfInBounds_toArray, List.set_cons_succ, List.set_cons_zero]
      refine drawn_take (i := 4) (v := .int .u8 (v0.size : Int)) (some 34) rfl rfl (by kernel_rfl) (by kernel_rfl) (by kernel_rfl) (fun _ _ _ h => h) (Or.inl ⟨by kernel_rfl, fun wq hw => by go_simp⟩) hHeld ?_
      simp only [Act.put, List.setIfInBounds_toArray, List.set_cons_succ, List.set_cons_zero]
      refine drawn_take (i := 7) (v := .pointer (some ⟨bx, 1, none⟩)) (some 37) rfl rfl (by kernel_rfl) (by kernel_rfl) (by kernel_rfl) (fun _ _ _ h => h) (Or.inl ⟨by kernel_rfl, fun wq hw => by go_simp⟩) hHeld ?_
      simp only [Act.put, List.setIfInBounds_toArray, List.set_cons_succ, List.set_cons_zero]
      refine drawn_take (i := 8) (v := .string v0) (some 38) rfl rfl (by kernel_rfl) (by kernel_rfl) (by kernel_rfl) (fun _ _ _ h => h) (Or.inl ⟨by kernel_rfl, fun wq hw => by go_simp⟩) hHeld ?_
      simp only [Act.put, List.setIfInBounds_toArray, List.set_cons_succ, List.set_cons_zero]
      refine wpAnyH_ready (rs := [5]) (by kernel_rfl) (by simp) ?_
      refine rdy_val (i := 5) rfl rfl (some 35) rfl (.slice (some ⟨wd2.heap.size, 0, none⟩) 1 1) (wd2.alloc (.cells #[.int .u8 (v0.size : Int)] 5)) (by go_simp) (Lib.cell?_alloc_some _ hHeld) (fun hHeld => ?_) rdy_nil
      simp only [Act.put, List.setIfInBounds_toArray, List.set_cons_succ, List.set_cons_zero]
      obtain ⟨va2, wa2, hr2, oa2, ga2, _⟩ := run_append_ownF (P := Tryd.prog) (wd2.alloc (.cells #[.int .u8 (v0.size : Int)] 5)) w1.heap.size 24 24 5 i0 (.int .u8 0) 1 1 Tryd.underlying24 hi hz0 hz1 hz2 rfl (by decide) vb1 (t0.length + 1 + n0.size) (vb (t0 ++ ([n0.size] ++ sN n0))) (od2.alloc _) ⟨wd2.heap.size, 0, none⟩ 1 1 [.int .u8 (v0.size : Int)] rfl (by intro j u hj; match j, hj with | 0, hj => simp at hj; subst hj; simp [Addr.add]) (by intro u hu; simp at hu; subst hu; rfl) (by unfold maxLen; omega) (by omega) (by rw [alloc_size]; omega)
      have qa2 : wa2.heap[bx]? = some (.cells #[.string n0, .string v0] 72 (0, 0)) := (((Lib.OthersKept.refl 5 none wd2).alloc _).grown ga2 (Lib.ownsRowF_kind (od2.alloc _))) _ _ qd2 (fun h => by cases h) (fun c f h => by cases h)
      have ka2 : Below w1.heap.size wd2 wa2 := ((Below.refl w1.heap.size wd2).alloc sd2 _).grown ga2 (by rw [alloc_size]; omega) (fun k hk => (od2.lt k hk).1)
      have sa2 : w1.heap.size ≤ wa2.heap.size := Nat.le_trans sd2 ka2.size
      refine wpAnyH_ready (rs := [6]) (by kernel_rfl) (by simp) ?_
      refine rdy_val (i := 6) rfl rfl (some 36) rfl va2 wa2 (app_run (x := .tmp 30) (y := .tmp 35) (by kernel_rfl) (by kernel_rfl) (by kernel_rfl) hr2) (cell_at qa2) (fun hHeld => ?_) rdy_nil
      simp only [Act.put, List.setIfInBounds_toArray, List.set_cons_succ, List.set_cons_zero]
      obtain ⟨vb2, wb2, hs2, ob2, gb2, _⟩ := Lib.run_append_own_stringF (P := Tryd.prog) wa2 w1.heap.size 24 9 24 5 i0 Tryd.underlying24 Tryd.underlying9 hi hz0 hz1 hz2 va2 _ _ oa2 v0 (by unfold maxLen; omega) (by omega) sa2
      have qb2 : wb2.heap[bx]? = some (.cells #[.string n0, .string v0] 72 (0, 0)) := ((Lib.OthersKept.refl 5 none wa2).grown gb2 (Lib.ownsRowF_kind oa2)) _ _ qa2 (fun h => by cases h) (fun c f h => by cases h)
      have kb2 : Below w1.heap.size wa2 wb2 := (Below.refl w1.heap.size wa2).grown gb2 sa2 (fun k hk => (oa2.lt k hk).1)
      have sb2 : w1.heap.size ≤ wb2.heap.size := Nat.le_trans sa2 kb2.size
      refine wpAnyH_ready (rs := [9]) (by kernel_rfl) (by simp) ?_
      refine rdy_val (i := 9) rfl rfl (some 39) rfl vb2 wb2 (app_run (x := .tmp 36) (y := .tmp 38) (by kernel_rfl) (by kernel_rfl) (by kernel_rfl) hs2) (cell_at qb2) (fun hHeld => ?_) rdy_nil
      simp only [Act.put, List.setIfInBounds_toArray, List.set_cons_succ, List.set_cons_zero]
      refine drawn_take (i := 10) (v := vb2) (some 4) rfl rfl (by kernel_rfl) (by kernel_rfl) (by kernel_rfl) (fun _ _ _ h => h) (Or.inl ⟨by kernel_rfl, fun wq hw => by go_simp⟩) hHeld ?_
      simp only [Act.put, List.setIfInBounds_toArray, List.set_cons_succ, List.set_cons_zero]
      refine wpAnyH_done (by kernel_rfl) ?_ _
      refine NoPanic.normal ?_
      clear hHeld
      have OF2 : Hid (wb2.ownsRowF w1.heap.size 5 1 vb2 ((t0.length + 1 + n0.size) + 1 + v0.size) (vb ((t0 ++ ([n0.size] ++ sN n0)) ++ ([v0.size] ++ sN v0)))) := hidn (by rw [vb_append (t0 ++ ([n0.size] ++ sN n0)) _, vb_append [v0.size] _, vb_sN, ← List.append_assoc]; exact ob2)
      have KF2 : Below w1.heap.size wb1 wb2 := (ks2.trans ka2).trans kb2
      clear hr2 hs2 oa2 ob2 ga2 gb2 qa2 ka2 kb2 od2 cd2 qd2
      have o2 := OF2.out
      generalize hW2 : wb2 = W2 at *
      generalize hv2 : vb2 = v2 at *
      have hs4 : w1.heap.size < W2.heap.size := Nat.lt_of_le_of_lt (by omega : w1.heap.size ≤ bx) ((Array.getElem?_eq_some_iff.1 qb2).1)
      have HO : Hid (W2.ownsRowF w1.heap.size 5 1 v2 (encTo ls (k + 1)).length (vb (encTo ls (k + 1)))) := hidn (by
        rw [hnext.out]
        have e : (t0 ++ (([n0.size] ++ sN n0) ++ ([v0.size] ++ sN v0))).length = t0.length + 1 + n0.size + 1 + v0.size := by simp [sN_len]; omega
        rw [e, ← List.append_assoc]
        exact o2)
      clear o2 OF1 OF2
      go_wp2
      exact ⟨⟨k + 1, _, by omega, by go_num, rfl, HO.out, hs4, (HBL2.out.trans KF1).trans KF2⟩, by simp [intOf]; omega⟩
    · obtain rfl : k = len := by omega
      have HEN : Hid (encTo ls k = encN ls) := hidn (by unfold encN; rw [hl.out])
      have hln := encTo_len ls hc'.out k (by rw [hl.out]; omega)
      have hpos : 0 < (encTo ls k).length := by
        have : ∀ m, 0 < (encTo ls m).length := by
          intro m; induction m with
          | zero => simp [encTo]
          | succ m ih => simp only [encTo, List.length_append]; omega
        exact this k
      have hlt := encTo_lt ls hc'.out k (by rw [hl.out]; omega)
      rw [HEN.out] at hown hpos hlt hln
      have hown' := hown
      obtain ⟨a', cap', hv, hB⟩ := bs_of_ownF hown hlt
      rcases hown.2 with ⟨_, h0⟩ | ⟨g, c, cur, fz, hvg, hg, hh, hfz, hgc, hcm, _⟩
      · omega
      subst hvg
      injection hv with e1 e2 e3
      subst e1
      clear e2 e3
      have hfin : Hid (wr.ownsRowF w.heap.size 5 1 (.slice (some ⟨g, 0, none⟩) (encN ls).length c) (encN ls).length (vb (encN ls))) := hidn (by
        refine ⟨hown'.1, ?_⟩
        rcases hown'.2 with ⟨h1, h2⟩ | ⟨g2, c2, cur, fz, hv, hg2, r⟩
        · exact .inl ⟨h1, h2⟩
        · exact .inr ⟨g2, c2, cur, fz, hv, by omega, r⟩)
      have HB := hidn hB
      clear hown hown' hB
      go_wp2
      go_ret2
      exact ⟨g, c, rfl, by omega, hgc, hcm, HB.out, hfin.out, hbl0⟩
end Go.Proofs.YtcjhkpcnhnnjbaaDoor
