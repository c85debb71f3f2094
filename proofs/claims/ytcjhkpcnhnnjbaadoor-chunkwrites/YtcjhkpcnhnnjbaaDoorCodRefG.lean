/- dryrotref11.Encode: its bytes. -/
import Derived.Test.YtcjhkpcnhnnjbaaDoorMk
namespace Go.Proofs.YtcjhkpcnhnnjbaaDoor.Cd
open Go.RowKit Go.Joins
set_option linter.unusedVariables false
set_option linter.unusedSimpArgs false

theorem rd_oint {o : Oper} {a : Act} {w : World} {ts : Array TypeId} {x0 x1 : Nat} {v0 v1 : Value} (ho : o.op = Op.call { callee := Callee.value (Operand.func 60), args := #[.tmp x0, .tmp x1], argTypes := ts }) (hx0 : a.eval (.tmp x0) = v0) (hx1 : a.eval (.tmp x1) = v1) : (execOp a.eval o).run Tryd.prog w = .ok (.enter 60 #[v0, v1]) w := by
  simp [go_sem, execOp, ho, resolve, invoke]
  exact ⟨by simpa [Act.eval] using hx0, by simpa [Act.eval] using hx1⟩
theorem rd_oxor {o : Oper} {a : Act} {w : World} {ts : Array TypeId} {x0 x1 : Nat} {v0 v1 : Value} (ho : o.op = Op.call { callee := Callee.value (Operand.func 61), args := #[.tmp x0, .tmp x1], argTypes := ts }) (hx0 : a.eval (.tmp x0) = v0) (hx1 : a.eval (.tmp x1) = v1) : (execOp a.eval o).run Tryd.prog w = .ok (.enter 61 #[v0, v1]) w := by
  simp [go_sem, execOp, ho, resolve, invoke]
  exact ⟨by simpa [Act.eval] using hx0, by simpa [Act.eval] using hx1⟩
theorem bodyTo_len (l : List Sam) (k : Nat) : (bodyTo l k).length ≤ 150 * k := by
  have h := encTo_len l k
  rw [encTo_body, List.length_append, lowBits_length] at h
  omega
theorem wrap64_sub0 (x : Int) : wrap64 (wrap64 x - 0) = wrap64 x := by unfold wrap64; omega
theorem i64_w64 (x : Int) : IntKind.i64.wrap x = wrap64 x := by rw [IntKind.wrap_i64]; unfold wrap64; rfl
theorem i64_nat (x : Nat) (h : x < 9223372036854775808) : IntKind.i64.wrap (x : Int) = (x : Int) := by rw [i64_w64]; unfold wrap64; omega
theorem vt_getE (l : List Bool) (j : Nat) (h : j < l.length) : (vt l)[j]? = some (.bool (l.getD j false)) := by simp [vt, h]
theorem bodyTo_succ (l : List Sam) (k : Nat) : bodyTo l (k + 1) = bodyTo l k ++ encOne l k := rfl
set_option maxHeartbeats 4000000 in
set_option maxRecDepth 100000 in
theorem renc_yes (a : Option Addr) (len cap : Nat) (l : List Sam) (w : World) (h : Sm w a len l) (hc : canS l = true) :
    Calls Tryd.prog 32 #[.slice a len cap] w fun e w' => ∃ (v : Value) (zs : List Nat), e = .returned (.tuple #[v, .int .i64 0]) ∧ IsPack zs (encS l) ∧ w'.ownsRow w.heap.size 5 1 v zs.length (vb zs) ∧ Below w.heap.size w w' := by
  obtain ⟨i0, hi, hz0, hz1, hz2⟩ := info_parts Tryd.info5
  have hl16 := ((canS_iff l).1 hc).1
  rw [h.1] at hl16
  have hwr : IntKind.u64.wrap (len : Int) = (len : Int) := wrap_u_lt .u64 rfl _ (by show len < 18446744073709551616; omega)
  have HLl := hidn h.1
  go_enter Tryd.func32, Tryd.ntmps32
  go_wp2_with fail
  refine (rcan_any a len cap l _ h).mono ?_
  rintro e w1 ⟨rfl, hb1⟩
  rw [hc]
  clear hc
  have hs1 := hb1.size
  obtain ⟨B, hBe⟩ : ∃ B, B = w.heap.size := ⟨_, rfl⟩
  obtain ⟨b, hbe⟩ : ∃ b, b = w1.heap.size := ⟨_, rfl⟩
  have HW : Hid (OI (w1.alloc (.cells #[.slice none 0 0] 96)) B b (bodyTo l 0)) := hidn (by
    refine ⟨by omega, .slice none 0 0, by rw [hbe]; exact heap_alloc_new w1 _, World.ownsRow_nil _ _ _ _⟩)
  have HL0 : Below B w (w1.alloc (.cells #[.slice none 0 0] 96)) := by
    rw [hBe]
    exact hb1.alloc (by omega) _
  have hszW : (w1.alloc (.cells #[.slice none 0 0] 96)).heap.size = b + 1 := by simp [hbe]
  have HBE := hidn hBe
  have HB0 := hidn hbe
  have hBb : B ≤ b := by omega
  clear hbe hBe
  go_wp2_with fail
  rw [← HB0.out]
  generalize hW0 : w1.alloc (.cells #[.slice none 0 0] 96) = W0 at *
  clear hW0 HB0 hb1 hs1 hszW
  go_loopw [17] (fun iv wr => ∃ (k : Nat), k ≤ len ∧ iv = .int .i64 (k : Int) ∧ OI wr B b (bodyTo l k) ∧ Below B w wr) (fun iv _ => len - (intOf iv).toNat)
  case atStart => exact ⟨0, Nat.zero_le _, rfl, HW.out, HL0⟩
  case round =>
    obtain ⟨k, hk, rfl, hoi, hbl⟩ := hrel
    have hBwr : B ≤ wr.heap.size := by have := hbl.size; have := HBE.out; omega
    have hln := bodyTo_len l k
    by_cases hlt : k < len
    · obtain ⟨sb, off, rfl, hsb, hcl⟩ := h.pos (by omega)
      rw [← HBE.out] at hsb
      obtain ⟨c0, c1⟩ := hcl k hlt
      have c0' := (hbl.cell (p := ⟨sb, off + k * 2, none⟩) hsb).trans c0
      have c1' := (hbl.cell (p := ⟨sb, off + k * 2 + 1, none⟩) hsb).trans c1
      obtain ⟨o1, o2, o3⟩ := h.2.2.1 k
      obtain ⟨tk, htk⟩ : ∃ tk, tk = (samD l k).t := ⟨_, rfl⟩
      obtain ⟨vk, hvk⟩ : ∃ vk, vk = (samD l k).v := ⟨_, rfl⟩
      rw [← htk] at c0' o1 o2
      rw [← hvk] at c1' o3
      have hkl : (k : Int) < (len : Int) := by omega
      have hoi1 := hoi.below ((Below.refl _ wr).alloc (Nat.le_refl _) (.cells #[.int .i64 tk, .int .u64 (vk : Int)] 49))
      have hq1 := heap_alloc_new wr (.cells #[.int .i64 tk, .int .u64 (vk : Int)] 49)
      have hbl1 : Below B w (wr.alloc (.cells #[.int .i64 tk, .int .u64 (vk : Int)] 49)) := hbl.alloc hBwr _
      have hsz1 : (wr.alloc (.cells #[.int .i64 tk, .int .u64 (vk : Int)] 49)).heap.size = wr.heap.size + 1 := by simp
      have hblt : b < wr.heap.size := by obtain ⟨_, v, h2, _⟩ := hoi; exact (Array.getElem?_eq_some_iff.1 h2).1
      obtain ⟨sp, hsp⟩ : ∃ sp, sp = wr.heap.size := ⟨_, rfl⟩
      rw [← hsp] at hq1 hsz1
      have HSP := hidn hsp
      have HTK := hidn htk
      have HVK := hidn hvk
      have hspb : sp ≠ b := by omega
      have hsBs : B ≤ sp + 1 := by omega
      clear c0 c1 htk hvk hsp hoi
      by_cases hk0 : k = 0
      · have hkz : ((k : Int) == 0) = true := by simp; omega
        have HK0 := hidn hk0
        clear hk0 hcl
        go_wp2_with fail
        rw [← HSP.out, u64_eq tk]
        refine (oput_any B b (Go.Proofs.YtcjhkpcnhnnjbaaDoor.Cd.u64 tk) 64 _ _ (by rw [hsz1]; exact hsBs) hoi1 (u64_lt _) (by omega) (by omega)).mono ?_
        rintro e W2 ⟨rfl, hoi2, l2, k2⟩
        have hq2 := k2 _ _ hq1 (fun h => hspb (Option.some.inj h)) (fun c f h => by cases h)
        have d1 : W2.cell? ⟨sp, 1, none⟩ = some (.int .u64 (vk : Int)) := cell_of_row _ _ _ _ _ _ hq2
        have hs2 := l2.size
        rw [hsz1] at hs2
        go_wp2_with fail
        refine (oput_any B b vk 64 _ _ (by omega) hoi2 o3 (by omega) (by rw [List.length_append, lowBits_length]; omega)).mono ?_
        rintro e W3 ⟨rfl, hoi3, l3, k3⟩
        have HE : Hid (bodyTo l k ++ lowBits (Go.Proofs.YtcjhkpcnhnnjbaaDoor.Cd.u64 tk) 64 ++ lowBits vk 64 = bodyTo l (k + 1)) := hidn (by
          rw [bodyTo_succ, HK0.out, HTK.out, HVK.out, HK0.out, List.append_assoc]; rfl)
        rw [HE.out] at hoi3
        have HF := hidn (And.intro hoi3 ((hbl1.trans l2).trans l3))
        clear hoi1 hoi2 hoi3 k2 k3 l2 l3 hq1 hq2
        go_wp2_with fail
        refine ⟨⟨k + 1, by omega, by go_num, HF.out.1, HF.out.2⟩, by simp [intOf]; omega⟩
      · have hkz : ((k : Int) == 0) = false := by simp; omega
        obtain ⟨j, hj⟩ : ∃ j, k = j + 1 := ⟨k - 1, by omega⟩
        have HJ := hidn hj
        have hji : (k : Int) - 1 = (j : Int) := by omega
        have hjl : (j : Int) < (len : Int) := by omega
        have ov := (h.2.2.1 j).2.2
        obtain ⟨cj0, cj1⟩ := hcl j (by omega)
        obtain ⟨tj, htj⟩ : ∃ tj, tj = (samD l j).t := ⟨_, rfl⟩
        obtain ⟨qn, hqn⟩ : ∃ qn : Nat, qn = (samD l j).v := ⟨_, rfl⟩
        rw [← htj] at cj0
        rw [← hqn] at cj1 ov
        have HTJ := hidn htj
        have HQN := hidn hqn
        have hxor : bits BinOp.xor IntKind.u64 (vk : Int) (qn : Int) = ((vk ^^^ qn : Nat) : Int) := bits_xor_u .u64 rfl _ _ o3 ov
        have hxl : vk ^^^ qn < 18446744073709551616 := Nat.xor_lt_two_pow (n := 64) o3 ov
        obtain ⟨xn, hxn⟩ : ∃ xn, xn = vk ^^^ qn := ⟨_, rfl⟩
        rw [← hxn] at hxor hxl
        have HXN := hidn hxn
        clear hxn hqn htj hk0
        generalize hW1 : wr.alloc (.cells #[.int .i64 tk, .int .u64 (vk : Int)] 49) = W1 at *
        by_cases hk1 : k = 1
        · have hkz1 : ((k : Int) == 1) = true := by simp; omega
          have hl0 : (0 : Int) < (len : Int) := by omega
          have e0 : W1.drew.cell? ⟨sb, off, none⟩ = some (.int .i64 tj) := by
            have := (hbl1.cell (p := ⟨sb, off + j * 2, none⟩) hsb).trans cj0
            rw [show off + j * 2 = off from by omega] at this
            exact this
          have f0 : W1.drew.cell? ⟨sb, off + j * 2 + 1, none⟩ = some (.int .u64 (qn : Int)) := (hbl1.cell (p := ⟨sb, off + j * 2 + 1, none⟩) hsb).trans cj1
          have HE : Hid (bodyTo l k ++ intBits (wrap64 (tk - tj)) ++ turned xn = bodyTo l (k + 1)) := hidn (by
            have hj0 : j = 0 := by omega
            have e1 : encOne l k = intBits (wrap64 (stepS l 1 - 0)) ++ turned ((samD l k).v ^^^ (samD l j).v) := by rw [hj, hj0]; rfl
            have e2 : wrap64 (stepS l 1 - 0) = wrap64 (tk - tj) := by rw [HTK.out, HTJ.out, hj, hj0]; exact wrap64_sub0 _
            rw [bodyTo_succ, e1, e2, ← HVK.out, ← HQN.out, ← HXN.out, List.append_assoc])
          have hil := intBits_len (wrap64 (tk - tj))
          clear hj hk1 hcl cj0 cj1
          go_wp2_with fail
          rw [← HSP.out]
          have hoi1d := hoi1.below (Below.refl _ W1).drew
          have hq1d : W1.drew.heap[sp]? = some (.cells #[.int .i64 tk, .int .u64 (vk : Int)] 49 (0, 0)) := hq1
          have hs1d : W1.drew.heap.size = sp + 1 := hsz1
          have hbl1d := hbl1.drew
          clear hbl1 hoi1 hq1 hsz1 hW1
          generalize hWd : W1.drew = Wd at *
          refine wp_region_noPanic ?_
          refine wp_region_held_drew (S := fun w' => w'.heap[sp]? = some (.cells #[.int .i64 tk, .int .u64 (vk : Int)] 49 (0, 0)) ∧ w'.cell? ⟨sb, off, none⟩ = some (.int .i64 tj)) (by kernel_rfl) (by rw [hWd]; exact ⟨hq1d, e0⟩) (fun hHeld => ?_)
          rw [hWd] at hHeld ⊢
          refine drawn_take (i := 0) (v := .pointer (some ⟨b, 0, none⟩)) (some 61) rfl rfl (by kernel_rfl) (by kernel_rfl) (by kernel_rfl) (fun _ _ _ h => h) (Or.inl ⟨by kernel_rfl, fun wq hw => by go_simp⟩) hHeld ?_
          simp only [Act.put, List.setIfInBounds_toArray, List.set_cons_succ, List.set_cons_zero]
          refine drawn_take (i := 1) (v := .pointer (some ⟨sp, 0, none⟩)) (some 62) rfl rfl (by kernel_rfl) (by kernel_rfl) (by kernel_rfl) (fun _ _ _ h => h) (Or.inl ⟨by kernel_rfl, fun wq hw => by go_simp⟩) hHeld ?_
          simp only [Act.put, List.setIfInBounds_toArray, List.set_cons_succ, List.set_cons_zero]
          refine drawn_take (i := 2) (v := .int .i64 tk) (some 63) rfl rfl (by kernel_rfl) (by kernel_rfl) (by kernel_rfl) (fun _ _ _ h => h) (Or.inl ⟨by kernel_rfl, fun wq hw => by have q9 : wq.cell? ⟨sp, 0, none⟩ = some (.int .i64 tk) := cell_of_row _ _ _ _ _ _ hw.1; go_simp⟩) hHeld ?_
          simp only [Act.put, List.setIfInBounds_toArray, List.set_cons_succ, List.set_cons_zero]
          refine drawn_take (i := 3) (v := .slice (some ⟨sb, off, none⟩) len cap) (some 64) rfl rfl (by kernel_rfl) (by kernel_rfl) (by kernel_rfl) (fun _ _ _ h => h) (Or.inl ⟨by kernel_rfl, fun wq hw => by go_simp⟩) hHeld ?_
          simp only [Act.put, List.setIfInBounds_toArray, List.set_cons_succ, List.set_cons_zero]
          refine drawn_take (i := 4) (v := .pointer (some ⟨sb, off, none⟩)) (some 65) rfl rfl (by kernel_rfl) (by kernel_rfl) (by kernel_rfl) (fun _ _ _ h => h) (Or.inl ⟨by kernel_rfl, fun wq hw => by go_simp; intro h9; omega⟩) hHeld ?_
          simp only [Act.put, List.setIfInBounds_toArray, List.set_cons_succ, List.set_cons_zero]
          refine drawn_take (i := 5) (v := .pointer (some ⟨sb, off, none⟩)) (some 66) rfl rfl (by kernel_rfl) (by kernel_rfl) (by kernel_rfl) (fun _ _ _ h => h) (Or.inl ⟨by kernel_rfl, fun wq hw => by go_simp⟩) hHeld ?_
          simp only [Act.put, List.setIfInBounds_toArray, List.set_cons_succ, List.set_cons_zero]
          refine drawn_take (i := 6) (v := .int .i64 tj) (some 67) rfl rfl (by kernel_rfl) (by kernel_rfl) (by kernel_rfl) (fun _ _ _ h => h) (Or.inl ⟨by kernel_rfl, fun wq hw => by have q9 := hw.2; go_simp⟩) hHeld ?_
          simp only [Act.put, List.setIfInBounds_toArray, List.set_cons_succ, List.set_cons_zero]
          refine drawn_take (i := 7) (v := .int .i64 (wrap64 (tk - tj))) (some 68) rfl rfl (by kernel_rfl) (by kernel_rfl) (by kernel_rfl) (fun _ _ _ h => h) (Or.inl ⟨by kernel_rfl, fun wq hw => by go_simp; exact i64_w64 _⟩) hHeld ?_
          simp only [Act.put, List.setIfInBounds_toArray, List.set_cons_succ, List.set_cons_zero]
          refine wpAnyH_ready (rs := [8]) (by kernel_rfl) (by simp) ?_
          refine rdy_call (i := 8) rfl rfl (some 69) rfl 60 #[.pointer (some ⟨b, 0, none⟩), .int .i64 (wrap64 (tk - tj))] (rd_oint (x0 := 61) (x1 := 68) (ts := #[93, 3]) (by kernel_rfl) (by kernel_rfl) (by kernel_rfl)) (fun r w' => r = .tuple #[] ∧ OI w' B b (bodyTo l k ++ intBits (wrap64 (tk - tj))) ∧ Below B Wd w' ∧ Lib.OthersKept 4 (some b) Wd w') ((oputInt_any B b (wrap64 (tk - tj)) _ Wd (by omega) hoi1d (by omega)).mono fun e w' h => ⟨_, h.1, rfl, h.2⟩) (fun r w9 hR => ?_) rdy_nil
          obtain ⟨rfl, hoi2, l2, k2⟩ := hR
          have hq2 := k2 _ _ hq1d (fun h => hspb (Option.some.inj h)) (fun c f h => by cases h)
          have f1 := (l2.cell (p := ⟨sb, off + j * 2 + 1, none⟩) hsb).trans f0
          have e1 := (l2.cell (p := ⟨sb, off, none⟩) hsb).trans e0
          have hs2 := l2.size
          rw [hs1d] at hs2
          refine ⟨⟨hq2, e1⟩, fun hHeld => ?_⟩
          simp only [Act.put, List.setIfInBounds_toArray, List.set_cons_succ, List.set_cons_zero]
          refine wpAnyH_done (by kernel_rfl) ?_ _
          refine NoPanic.normal ?_
          clear hHeld
          have hbl1 := hbl1d
          have hq1 := hq1d
          have hoi1 := hoi1d
          clear hbl1d hq1d hoi1d e0 e1 f0
          clear k2 hq1 hoi1
          go_wp2_with fail
          have hq2d : w9.drew.heap[sp]? = some (.cells #[.int .i64 tk, .int .u64 (vk : Int)] 49 (0, 0)) := hq2
          have hoi2d := hoi2.below (Below.refl _ w9).drew
          have f1d : w9.drew.cell? ⟨sb, off + j * 2 + 1, none⟩ = some (.int .u64 (qn : Int)) := f1
          have hbl2 : Below B w w9.drew := (hbl1.trans l2).drew
          have hs2d : sp + 1 ≤ w9.drew.heap.size := hs2
          clear l2 hs2 hoi2 f1 hbl1
          generalize hWe : w9.drew = We at *
          refine wp_region_noPanic ?_
          refine wp_region_held_drew (S := fun w' => w'.heap[sp]? = some (.cells #[.int .i64 tk, .int .u64 (vk : Int)] 49 (0, 0)) ∧ w'.cell? ⟨sb, off + j * 2 + 1, none⟩ = some (.int .u64 (qn : Int))) (by kernel_rfl) (by rw [hWe]; exact ⟨hq2d, f1d⟩) (fun hHeld => ?_)
          rw [hWe] at hHeld ⊢
          refine drawn_take (i := 0) (v := .pointer (some ⟨b, 0, none⟩)) (some 70) rfl rfl (by kernel_rfl) (by kernel_rfl) (by kernel_rfl) (fun _ _ _ h => h) (Or.inl ⟨by kernel_rfl, fun wq hw => by go_simp⟩) hHeld ?_
          simp only [Act.put, List.setIfInBounds_toArray, List.set_cons_succ, List.set_cons_zero]
          refine drawn_take (i := 1) (v := .pointer (some ⟨sp, 1, none⟩)) (some 71) rfl rfl (by kernel_rfl) (by kernel_rfl) (by kernel_rfl) (fun _ _ _ h => h) (Or.inl ⟨by kernel_rfl, fun wq hw => by go_simp⟩) hHeld ?_
          simp only [Act.put, List.setIfInBounds_toArray, List.set_cons_succ, List.set_cons_zero]
          refine drawn_take (i := 2) (v := .int .u64 (vk : Int)) (some 72) rfl rfl (by kernel_rfl) (by kernel_rfl) (by kernel_rfl) (fun _ _ _ h => h) (Or.inl ⟨by kernel_rfl, fun wq hw => by have q9 : wq.cell? ⟨sp, 1, none⟩ = some (.int .u64 (vk : Int)) := cell_of_row _ _ _ _ _ _ hw.1; go_simp⟩) hHeld ?_
          simp only [Act.put, List.setIfInBounds_toArray, List.set_cons_succ, List.set_cons_zero]
          refine drawn_take (i := 3) (v := .slice (some ⟨sb, off, none⟩) len cap) (some 73) rfl rfl (by kernel_rfl) (by kernel_rfl) (by kernel_rfl) (fun _ _ _ h => h) (Or.inl ⟨by kernel_rfl, fun wq hw => by go_simp⟩) hHeld ?_
          simp only [Act.put, List.setIfInBounds_toArray, List.set_cons_succ, List.set_cons_zero]
          refine drawn_take (i := 4) (v := .int .i64 (k : Int)) (some 74) rfl rfl (by kernel_rfl) (by kernel_rfl) (by kernel_rfl) (fun _ _ _ h => h) (Or.inl ⟨by kernel_rfl, fun wq hw => by go_simp⟩) hHeld ?_
          simp only [Act.put, List.setIfInBounds_toArray, List.set_cons_succ, List.set_cons_zero]
          refine drawn_take (i := 5) (v := .int .i64 (j : Int)) (some 75) rfl rfl (by kernel_rfl) (by kernel_rfl) (by kernel_rfl) (fun _ _ _ h => h) (Or.inl ⟨by kernel_rfl, fun wq hw => by go_simp; exact i64_nat _ (by omega)⟩) hHeld ?_
          simp only [Act.put, List.setIfInBounds_toArray, List.set_cons_succ, List.set_cons_zero]
          refine drawn_take (i := 6) (v := .pointer (some ⟨sb, off + j * 2, none⟩)) (some 76) rfl rfl (by kernel_rfl) (by kernel_rfl) (by kernel_rfl) (fun _ _ _ h => h) (Or.inl ⟨by kernel_rfl, fun wq hw => by go_simp⟩) hHeld ?_
          simp only [Act.put, List.setIfInBounds_toArray, List.set_cons_succ, List.set_cons_zero]
          refine drawn_take (i := 7) (v := .pointer (some ⟨sb, off + j * 2 + 1, none⟩)) (some 77) rfl rfl (by kernel_rfl) (by kernel_rfl) (by kernel_rfl) (fun _ _ _ h => h) (Or.inl ⟨by kernel_rfl, fun wq hw => by go_simp⟩) hHeld ?_
          simp only [Act.put, List.setIfInBounds_toArray, List.set_cons_succ, List.set_cons_zero]
          refine drawn_take (i := 8) (v := .int .u64 (qn : Int)) (some 78) rfl rfl (by kernel_rfl) (by kernel_rfl) (by kernel_rfl) (fun _ _ _ h => h) (Or.inl ⟨by kernel_rfl, fun wq hw => by have q9 := hw.2; go_simp⟩) hHeld ?_
          simp only [Act.put, List.setIfInBounds_toArray, List.set_cons_succ, List.set_cons_zero]
          refine drawn_take (i := 9) (v := .int .u64 (xn : Int)) (some 79) rfl rfl (by kernel_rfl) (by kernel_rfl) (by kernel_rfl) (fun _ _ _ h => h) (Or.inl ⟨by kernel_rfl, fun wq hw => by go_simp⟩) hHeld ?_
          simp only [Act.put, List.setIfInBounds_toArray, List.set_cons_succ, List.set_cons_zero]
          refine wpAnyH_ready (rs := [10]) (by kernel_rfl) (by simp) ?_
          refine rdy_call (i := 10) rfl rfl (some 80) rfl 61 #[.pointer (some ⟨b, 0, none⟩), .int .u64 (xn : Int)] (rd_oxor (x0 := 70) (x1 := 79) (ts := #[93, 47]) (by kernel_rfl) (by kernel_rfl) (by kernel_rfl)) (fun r w' => r = .tuple #[] ∧ OI w' B b (bodyTo l k ++ intBits (wrap64 (tk - tj)) ++ turned xn) ∧ Below B We w' ∧ Lib.OthersKept 4 (some b) We w') ((oputXor_any B b xn _ We (by omega) hoi2d (by rw [List.length_append]; omega) hxl).mono fun e w' h => ⟨_, h.1, rfl, h.2⟩) (fun r w9 hR => ?_) rdy_nil
          obtain ⟨rfl, hoi3, l3, k3⟩ := hR
          have hq3 := k3 _ _ hq2d (fun h => hspb (Option.some.inj h)) (fun c f h => by cases h)
          have f3 := (l3.cell (p := ⟨sb, off + j * 2 + 1, none⟩) hsb).trans f1d
          refine ⟨⟨hq3, f3⟩, fun hHeld => ?_⟩
          simp only [Act.put, List.setIfInBounds_toArray, List.set_cons_succ, List.set_cons_zero]
          refine wpAnyH_done (by kernel_rfl) ?_ _
          refine NoPanic.normal ?_
          clear hHeld
          rw [HE.out] at hoi3
          have HF := hidn (And.intro hoi3 (hbl2.trans l3))
          clear hoi3 k3 l3 hq3 f3 hq2d f1d hoi2d
          go_wp2_with fail
          refine ⟨⟨k + 1, by omega, by go_num, HF.out.1, HF.out.2⟩, by simp [intOf]; omega⟩
        · have hkz1 : ((k : Int) == 1) = false := by simp; omega
          obtain ⟨i, hij⟩ : ∃ i, j = i + 1 := ⟨j - 1, by omega⟩
          have hii : (k : Int) - 2 = (i : Int) := by omega
          have hil2 : (i : Int) < (len : Int) := by omega
          have ci0 := (hcl i (by omega)).1
          obtain ⟨ti, hti⟩ : ∃ ti, ti = (samD l i).t := ⟨_, rfl⟩
          rw [← hti] at ci0
          have e0 : W1.drew.cell? ⟨sb, off + j * 2, none⟩ = some (.int .i64 tj) := (hbl1.cell (p := ⟨sb, off + j * 2, none⟩) hsb).trans cj0
          have e2 : W1.drew.cell? ⟨sb, off + i * 2, none⟩ = some (.int .i64 ti) := (hbl1.cell (p := ⟨sb, off + i * 2, none⟩) hsb).trans ci0
          have f0 : W1.drew.cell? ⟨sb, off + j * 2 + 1, none⟩ = some (.int .u64 (qn : Int)) := (hbl1.cell (p := ⟨sb, off + j * 2 + 1, none⟩) hsb).trans cj1
          have HE : Hid (bodyTo l k ++ intBits (wrap64 (wrap64 (tk - tj) - wrap64 (tj - ti))) ++ turned xn = bodyTo l (k + 1)) := hidn (by
            have e1 : encOne l k = intBits (wrap64 (stepS l (j + 1) - stepS l j)) ++ turned ((samD l k).v ^^^ (samD l j).v) := by rw [hj]; rfl
            have e2 : stepS l (j + 1) = wrap64 (tk - tj) := by rw [HTK.out, HTJ.out, hj]; rfl
            have e3 : stepS l j = wrap64 (tj - ti) := by rw [HTJ.out, hti, hij]; rfl
            rw [bodyTo_succ, e1, e2, e3, ← HVK.out, ← HQN.out, ← HXN.out, List.append_assoc])
          have hil := intBits_len (wrap64 (wrap64 (tk - tj) - wrap64 (tj - ti)))
          clear hj hk1 hcl cj0 cj1 ci0 hti hij
          go_wp2_with fail
          rw [← HSP.out]
          have hoi1d := hoi1.below (Below.refl _ W1).drew
          have hq1d : W1.drew.heap[sp]? = some (.cells #[.int .i64 tk, .int .u64 (vk : Int)] 49 (0, 0)) := hq1
          have hs1d : W1.drew.heap.size = sp + 1 := hsz1
          have hbl1d := hbl1.drew
          clear hbl1 hoi1 hq1 hsz1 hW1
          generalize hWd : W1.drew = Wd at *
          refine wp_region_noPanic ?_
          refine wp_region_held_drew (S := fun w' => w'.heap[sp]? = some (.cells #[.int .i64 tk, .int .u64 (vk : Int)] 49 (0, 0)) ∧ w'.cell? ⟨sb, off + j * 2, none⟩ = some (.int .i64 tj) ∧ w'.cell? ⟨sb, off + i * 2, none⟩ = some (.int .i64 ti)) (by kernel_rfl) (by rw [hWd]; exact ⟨hq1d, e0, e2⟩) (fun hHeld => ?_)
          rw [hWd] at hHeld ⊢
          refine drawn_take (i := 0) (v := .pointer (some ⟨b, 0, none⟩)) (some 23) rfl rfl (by kernel_rfl) (by kernel_rfl) (by kernel_rfl) (fun _ _ _ h => h) (Or.inl ⟨by kernel_rfl, fun wq hw => by go_simp⟩) hHeld ?_
          simp only [Act.put, List.setIfInBounds_toArray, List.set_cons_succ, List.set_cons_zero]
          refine drawn_take (i := 1) (v := .pointer (some ⟨sp, 0, none⟩)) (some 24) rfl rfl (by kernel_rfl) (by kernel_rfl) (by kernel_rfl) (fun _ _ _ h => h) (Or.inl ⟨by kernel_rfl, fun wq hw => by go_simp⟩) hHeld ?_
          simp only [Act.put, List.setIfInBounds_toArray, List.set_cons_succ, List.set_cons_zero]
          refine drawn_take (i := 2) (v := .int .i64 tk) (some 25) rfl rfl (by kernel_rfl) (by kernel_rfl) (by kernel_rfl) (fun _ _ _ h => h) (Or.inl ⟨by kernel_rfl, fun wq hw => by have q9 : wq.cell? ⟨sp, 0, none⟩ = some (.int .i64 tk) := cell_of_row _ _ _ _ _ _ hw.1; go_simp⟩) hHeld ?_
          simp only [Act.put, List.setIfInBounds_toArray, List.set_cons_succ, List.set_cons_zero]
          refine drawn_take (i := 3) (v := .slice (some ⟨sb, off, none⟩) len cap) (some 26) rfl rfl (by kernel_rfl) (by kernel_rfl) (by kernel_rfl) (fun _ _ _ h => h) (Or.inl ⟨by kernel_rfl, fun wq hw => by go_simp⟩) hHeld ?_
          simp only [Act.put, List.setIfInBounds_toArray, List.set_cons_succ, List.set_cons_zero]
          refine drawn_take (i := 4) (v := .int .i64 (k : Int)) (some 27) rfl rfl (by kernel_rfl) (by kernel_rfl) (by kernel_rfl) (fun _ _ _ h => h) (Or.inl ⟨by kernel_rfl, fun wq hw => by go_simp⟩) hHeld ?_
          simp only [Act.put, List.setIfInBounds_toArray, List.set_cons_succ, List.set_cons_zero]
          refine drawn_take (i := 5) (v := .int .i64 (j : Int)) (some 28) rfl rfl (by kernel_rfl) (by kernel_rfl) (by kernel_rfl) (fun _ _ _ h => h) (Or.inl ⟨by kernel_rfl, fun wq hw => by go_simp; exact i64_nat _ (by omega)⟩) hHeld ?_
          simp only [Act.put, List.setIfInBounds_toArray, List.set_cons_succ, List.set_cons_zero]
          refine drawn_take (i := 6) (v := .pointer (some ⟨sb, off + j * 2, none⟩)) (some 29) rfl rfl (by kernel_rfl) (by kernel_rfl) (by kernel_rfl) (fun _ _ _ h => h) (Or.inl ⟨by kernel_rfl, fun wq hw => by go_simp⟩) hHeld ?_
          simp only [Act.put, List.setIfInBounds_toArray, List.set_cons_succ, List.set_cons_zero]
          refine drawn_take (i := 7) (v := .pointer (some ⟨sb, off + j * 2, none⟩)) (some 30) rfl rfl (by kernel_rfl) (by kernel_rfl) (by kernel_rfl) (fun _ _ _ h => h) (Or.inl ⟨by kernel_rfl, fun wq hw => by go_simp⟩) hHeld ?_
          simp only [Act.put, List.setIfInBounds_toArray, List.set_cons_succ, List.set_cons_zero]
          refine drawn_take (i := 8) (v := .int .i64 tj) (some 31) rfl rfl (by kernel_rfl) (by kernel_rfl) (by kernel_rfl) (fun _ _ _ h => h) (Or.inl ⟨by kernel_rfl, fun wq hw => by have q9 := hw.2.1; go_simp⟩) hHeld ?_
          simp only [Act.put, List.setIfInBounds_toArray, List.set_cons_succ, List.set_cons_zero]
          refine drawn_take (i := 9) (v := .int .i64 (wrap64 (tk - tj))) (some 32) rfl rfl (by kernel_rfl) (by kernel_rfl) (by kernel_rfl) (fun _ _ _ h => h) (Or.inl ⟨by kernel_rfl, fun wq hw => by go_simp; exact i64_w64 _⟩) hHeld ?_
          simp only [Act.put, List.setIfInBounds_toArray, List.set_cons_succ, List.set_cons_zero]
          refine drawn_take (i := 10) (v := .slice (some ⟨sb, off, none⟩) len cap) (some 33) rfl rfl (by kernel_rfl) (by kernel_rfl) (by kernel_rfl) (fun _ _ _ h => h) (Or.inl ⟨by kernel_rfl, fun wq hw => by go_simp⟩) hHeld ?_
          simp only [Act.put, List.setIfInBounds_toArray, List.set_cons_succ, List.set_cons_zero]
          refine drawn_take (i := 11) (v := .int .i64 (k : Int)) (some 34) rfl rfl (by kernel_rfl) (by kernel_rfl) (by kernel_rfl) (fun _ _ _ h => h) (Or.inl ⟨by kernel_rfl, fun wq hw => by go_simp⟩) hHeld ?_
          simp only [Act.put, List.setIfInBounds_toArray, List.set_cons_succ, List.set_cons_zero]
          refine drawn_take (i := 12) (v := .int .i64 (j : Int)) (some 35) rfl rfl (by kernel_rfl) (by kernel_rfl) (by kernel_rfl) (fun _ _ _ h => h) (Or.inl ⟨by kernel_rfl, fun wq hw => by go_simp; exact i64_nat _ (by omega)⟩) hHeld ?_
          simp only [Act.put, List.setIfInBounds_toArray, List.set_cons_succ, List.set_cons_zero]
          refine drawn_take (i := 13) (v := .pointer (some ⟨sb, off + j * 2, none⟩)) (some 36) rfl rfl (by kernel_rfl) (by kernel_rfl) (by kernel_rfl) (fun _ _ _ h => h) (Or.inl ⟨by kernel_rfl, fun wq hw => by go_simp⟩) hHeld ?_
          simp only [Act.put, List.setIfInBounds_toArray, List.set_cons_succ, List.set_cons_zero]
          refine drawn_take (i := 14) (v := .pointer (some ⟨sb, off + j * 2, none⟩)) (some 37) rfl rfl (by kernel_rfl) (by kernel_rfl) (by kernel_rfl) (fun _ _ _ h => h) (Or.inl ⟨by kernel_rfl, fun wq hw => by go_simp⟩) hHeld ?_
          simp only [Act.put, List.setIfInBounds_toArray, List.set_cons_succ, List.set_cons_zero]
          refine drawn_take (i := 15) (v := .int .i64 tj) (some 38) rfl rfl (by kernel_rfl) (by kernel_rfl) (by kernel_rfl) (fun _ _ _ h => h) (Or.inl ⟨by kernel_rfl, fun wq hw => by have q9 := hw.2.1; go_simp⟩) hHeld ?_
          simp only [Act.put, List.setIfInBounds_toArray, List.set_cons_succ, List.set_cons_zero]
          refine drawn_take (i := 16) (v := .slice (some ⟨sb, off, none⟩) len cap) (some 39) rfl rfl (by kernel_rfl) (by kernel_rfl) (by kernel_rfl) (fun _ _ _ h => h) (Or.inl ⟨by kernel_rfl, fun wq hw => by go_simp⟩) hHeld ?_
          simp only [Act.put, List.setIfInBounds_toArray, List.set_cons_succ, List.set_cons_zero]
          refine drawn_take (i := 17) (v := .int .i64 (k : Int)) (some 40) rfl rfl (by kernel_rfl) (by kernel_rfl) (by kernel_rfl) (fun _ _ _ h => h) (Or.inl ⟨by kernel_rfl, fun wq hw => by go_simp⟩) hHeld ?_
          simp only [Act.put, List.setIfInBounds_toArray, List.set_cons_succ, List.set_cons_zero]
          refine drawn_take (i := 18) (v := .int .i64 (i : Int)) (some 41) rfl rfl (by kernel_rfl) (by kernel_rfl) (by kernel_rfl) (fun _ _ _ h => h) (Or.inl ⟨by kernel_rfl, fun wq hw => by go_simp; exact i64_nat _ (by omega)⟩) hHeld ?_
          simp only [Act.put, List.setIfInBounds_toArray, List.set_cons_succ, List.set_cons_zero]
          refine drawn_take (i := 19) (v := .pointer (some ⟨sb, off + i * 2, none⟩)) (some 42) rfl rfl (by kernel_rfl) (by kernel_rfl) (by kernel_rfl) (fun _ _ _ h => h) (Or.inl ⟨by kernel_rfl, fun wq hw => by go_simp⟩) hHeld ?_
          simp only [Act.put, List.setIfInBounds_toArray, List.set_cons_succ, List.set_cons_zero]
          refine drawn_take (i := 20) (v := .pointer (some ⟨sb, off + i * 2, none⟩)) (some 43) rfl rfl (by kernel_rfl) (by kernel_rfl) (by kernel_rfl) (fun _ _ _ h => h) (Or.inl ⟨by kernel_rfl, fun wq hw => by go_simp⟩) hHeld ?_
          simp only [Act.put, List.setIfInBounds_toArray, List.set_cons_succ, List.set_cons_zero]
          refine drawn_take (i := 21) (v := .int .i64 ti) (some 44) rfl rfl (by kernel_rfl) (by kernel_rfl) (by kernel_rfl) (fun _ _ _ h => h) (Or.inl ⟨by kernel_rfl, fun wq hw => by have q9 := hw.2.2; go_simp⟩) hHeld ?_
          simp only [Act.put, List.setIfInBounds_toArray, List.set_cons_succ, List.set_cons_zero]
          refine drawn_take (i := 22) (v := .int .i64 (wrap64 (tj - ti))) (some 45) rfl rfl (by kernel_rfl) (by kernel_rfl) (by kernel_rfl) (fun _ _ _ h => h) (Or.inl ⟨by kernel_rfl, fun wq hw => by go_simp; exact i64_w64 _⟩) hHeld ?_
          simp only [Act.put, List.setIfInBounds_toArray, List.set_cons_succ, List.set_cons_zero]
          refine drawn_take (i := 23) (v := .int .i64 (wrap64 (wrap64 (tk - tj) - wrap64 (tj - ti)))) (some 46) rfl rfl (by kernel_rfl) (by kernel_rfl) (by kernel_rfl) (fun _ _ _ h => h) (Or.inl ⟨by kernel_rfl, fun wq hw => by go_simp; exact i64_w64 _⟩) hHeld ?_
          simp only [Act.put, List.setIfInBounds_toArray, List.set_cons_succ, List.set_cons_zero]
          refine wpAnyH_ready (rs := [24]) (by kernel_rfl) (by simp) ?_
          refine rdy_call (i := 24) rfl rfl (some 47) rfl 60 #[.pointer (some ⟨b, 0, none⟩), .int .i64 (wrap64 (wrap64 (tk - tj) - wrap64 (tj - ti)))] (rd_oint (x0 := 23) (x1 := 46) (ts := #[93, 3]) (by kernel_rfl) (by kernel_rfl) (by kernel_rfl)) (fun r w' => r = .tuple #[] ∧ OI w' B b (bodyTo l k ++ intBits (wrap64 (wrap64 (tk - tj) - wrap64 (tj - ti)))) ∧ Below B Wd w' ∧ Lib.OthersKept 4 (some b) Wd w') ((oputInt_any B b (wrap64 (wrap64 (tk - tj) - wrap64 (tj - ti))) _ Wd (by omega) hoi1d (by omega)).mono fun e w' h => ⟨_, h.1, rfl, h.2⟩) (fun r w9 hR => ?_) rdy_nil
          obtain ⟨rfl, hoi2, l2, k2⟩ := hR
          have hq2 := k2 _ _ hq1d (fun h => hspb (Option.some.inj h)) (fun c f h => by cases h)
          have f1 := (l2.cell (p := ⟨sb, off + j * 2 + 1, none⟩) hsb).trans f0
          have g1 := (l2.cell (p := ⟨sb, off + j * 2, none⟩) hsb).trans e0
          have g2 := (l2.cell (p := ⟨sb, off + i * 2, none⟩) hsb).trans e2
          have hs2 := l2.size
          rw [hs1d] at hs2
          refine ⟨⟨hq2, g1, g2⟩, fun hHeld => ?_⟩
          simp only [Act.put, List.setIfInBounds_toArray, List.set_cons_succ, List.set_cons_zero]
          refine wpAnyH_done (by kernel_rfl) ?_ _
          refine NoPanic.normal ?_
          clear hHeld
          have hbl1 := hbl1d
          have hq1 := hq1d
          have hoi1 := hoi1d
          clear hbl1d hq1d hoi1d e0 e2 g1 g2 f0
          clear k2 hq1 hoi1
          go_wp2_with fail
          have hq2d : w9.drew.heap[sp]? = some (.cells #[.int .i64 tk, .int .u64 (vk : Int)] 49 (0, 0)) := hq2
          have hoi2d := hoi2.below (Below.refl _ w9).drew
          have f1d : w9.drew.cell? ⟨sb, off + j * 2 + 1, none⟩ = some (.int .u64 (qn : Int)) := f1
          have hbl2 : Below B w w9.drew := (hbl1.trans l2).drew
          have hs2d : sp + 1 ≤ w9.drew.heap.size := hs2
          clear l2 hs2 hoi2 f1 hbl1
          generalize hWe : w9.drew = We at *
          refine wp_region_noPanic ?_
          refine wp_region_held_drew (S := fun w' => w'.heap[sp]? = some (.cells #[.int .i64 tk, .int .u64 (vk : Int)] 49 (0, 0)) ∧ w'.cell? ⟨sb, off + j * 2 + 1, none⟩ = some (.int .u64 (qn : Int))) (by kernel_rfl) (by rw [hWe]; exact ⟨hq2d, f1d⟩) (fun hHeld => ?_)
          rw [hWe] at hHeld ⊢
          refine drawn_take (i := 0) (v := .pointer (some ⟨b, 0, none⟩)) (some 70) rfl rfl (by kernel_rfl) (by kernel_rfl) (by kernel_rfl) (fun _ _ _ h => h) (Or.inl ⟨by kernel_rfl, fun wq hw => by go_simp⟩) hHeld ?_
          simp only [Act.put, List.setIfInBounds_toArray, List.set_cons_succ, List.set_cons_zero]
          refine drawn_take (i := 1) (v := .pointer (some ⟨sp, 1, none⟩)) (some 71) rfl rfl (by kernel_rfl) (by kernel_rfl) (by kernel_rfl) (fun _ _ _ h => h) (Or.inl ⟨by kernel_rfl, fun wq hw => by go_simp⟩) hHeld ?_
          simp only [Act.put, List.setIfInBounds_toArray, List.set_cons_succ, List.set_cons_zero]
          refine drawn_take (i := 2) (v := .int .u64 (vk : Int)) (some 72) rfl rfl (by kernel_rfl) (by kernel_rfl) (by kernel_rfl) (fun _ _ _ h => h) (Or.inl ⟨by kernel_rfl, fun wq hw => by have q9 : wq.cell? ⟨sp, 1, none⟩ = some (.int .u64 (vk : Int)) := cell_of_row _ _ _ _ _ _ hw.1; go_simp⟩) hHeld ?_
          simp only [Act.put, List.setIfInBounds_toArray, List.set_cons_succ, List.set_cons_zero]
          refine drawn_take (i := 3) (v := .slice (some ⟨sb, off, none⟩) len cap) (some 73) rfl rfl (by kernel_rfl) (by kernel_rfl) (by kernel_rfl) (fun _ _ _ h => h) (Or.inl ⟨by kernel_rfl, fun wq hw => by go_simp⟩) hHeld ?_
          simp only [Act.put, List.setIfInBounds_toArray, List.set_cons_succ, List.set_cons_zero]
          refine drawn_take (i := 4) (v := .int .i64 (k : Int)) (some 74) rfl rfl (by kernel_rfl) (by kernel_rfl) (by kernel_rfl) (fun _ _ _ h => h) (Or.inl ⟨by kernel_rfl, fun wq hw => by go_simp⟩) hHeld ?_
          simp only [Act.put, List.setIfInBounds_toArray, List.set_cons_succ, List.set_cons_zero]
          refine drawn_take (i := 5) (v := .int .i64 (j : Int)) (some 75) rfl rfl (by kernel_rfl) (by kernel_rfl) (by kernel_rfl) (fun _ _ _ h => h) (Or.inl ⟨by kernel_rfl, fun wq hw => by go_simp; exact i64_nat _ (by omega)⟩) hHeld ?_
          simp only [Act.put, List.setIfInBounds_toArray, List.set_cons_succ, List.set_cons_zero]
          refine drawn_take (i := 6) (v := .pointer (some ⟨sb, off + j * 2, none⟩)) (some 76) rfl rfl (by kernel_rfl) (by kernel_rfl) (by kernel_rfl) (fun _ _ _ h => h) (Or.inl ⟨by kernel_rfl, fun wq hw => by go_simp⟩) hHeld ?_
          simp only [Act.put, List.setIfInBounds_toArray, List.set_cons_succ, List.set_cons_zero]
          refine drawn_take (i := 7) (v := .pointer (some ⟨sb, off + j * 2 + 1, none⟩)) (some 77) rfl rfl (by kernel_rfl) (by kernel_rfl) (by kernel_rfl) (fun _ _ _ h => h) (Or.inl ⟨by kernel_rfl, fun wq hw => by go_simp⟩) hHeld ?_
          simp only [Act.put, List.setIfInBounds_toArray, List.set_cons_succ, List.set_cons_zero]
          refine drawn_take (i := 8) (v := .int .u64 (qn : Int)) (some 78) rfl rfl (by kernel_rfl) (by kernel_rfl) (by kernel_rfl) (fun _ _ _ h => h) (Or.inl ⟨by kernel_rfl, fun wq hw => by have q9 := hw.2; go_simp⟩) hHeld ?_
          simp only [Act.put, List.setIfInBounds_toArray, List.set_cons_succ, List.set_cons_zero]
          refine drawn_take (i := 9) (v := .int .u64 (xn : Int)) (some 79) rfl rfl (by kernel_rfl) (by kernel_rfl) (by kernel_rfl) (fun _ _ _ h => h) (Or.inl ⟨by kernel_rfl, fun wq hw => by go_simp⟩) hHeld ?_
          simp only [Act.put, List.setIfInBounds_toArray, List.set_cons_succ, List.set_cons_zero]
          refine wpAnyH_ready (rs := [10]) (by kernel_rfl) (by simp) ?_
          refine rdy_call (i := 10) rfl rfl (some 80) rfl 61 #[.pointer (some ⟨b, 0, none⟩), .int .u64 (xn : Int)] (rd_oxor (x0 := 70) (x1 := 79) (ts := #[93, 47]) (by kernel_rfl) (by kernel_rfl) (by kernel_rfl)) (fun r w' => r = .tuple #[] ∧ OI w' B b (bodyTo l k ++ intBits (wrap64 (wrap64 (tk - tj) - wrap64 (tj - ti))) ++ turned xn) ∧ Below B We w' ∧ Lib.OthersKept 4 (some b) We w') ((oputXor_any B b xn _ We (by omega) hoi2d (by rw [List.length_append]; omega) hxl).mono fun e w' h => ⟨_, h.1, rfl, h.2⟩) (fun r w9 hR => ?_) rdy_nil
          obtain ⟨rfl, hoi3, l3, k3⟩ := hR
          have hq3 := k3 _ _ hq2d (fun h => hspb (Option.some.inj h)) (fun c f h => by cases h)
          have f3 := (l3.cell (p := ⟨sb, off + j * 2 + 1, none⟩) hsb).trans f1d
          refine ⟨⟨hq3, f3⟩, fun hHeld => ?_⟩
          simp only [Act.put, List.setIfInBounds_toArray, List.set_cons_succ, List.set_cons_zero]
          refine wpAnyH_done (by kernel_rfl) ?_ _
          refine NoPanic.normal ?_
          clear hHeld
          rw [HE.out] at hoi3
          have HF := hidn (And.intro hoi3 (hbl2.trans l3))
          clear hoi3 k3 l3 hq3 f3 hq2d f1d hoi2d
          go_wp2_with fail
          refine ⟨⟨k + 1, by omega, by go_num, HF.out.1, HF.out.2⟩, by simp [intOf]; omega⟩
    · have hke : ¬ (k : Int) < (len : Int) := by omega
      have hkle : k = len := by omega
      obtain ⟨L, hL⟩ : ∃ L, L = bodyTo l k := ⟨_, rfl⟩
      rw [← hL] at hoi hln
      have HLE : Hid (lowBits len 16 ++ L = encS l) := hidn (by
        unfold encS
        rw [HLl.out, encTo_body, HLl.out, hL, hkle])
      have hlnb : L.length ≤ 9830250 := by omega
      clear hL hkle
      go_wp2_with fail
      refine (refPut_any len 2 2 _ (by omega) (by omega)).mono ?_
      rintro e w5 ⟨rfl, hown5, hb5⟩
      have hoi5 := hoi.below hb5
      have hs5 := hb5.size
      have hbl5 : Below B w w5 := hbl.trans (hb5.mono hBwr)
      obtain ⟨g5, hg5⟩ : ∃ g5, g5 = wr.heap.size := ⟨_, rfl⟩
      rw [← hg5] at hown5 ⊢
      have hB5 : B ≤ w5.heap.size := by omega
      obtain ⟨_, ov, hob, hoo⟩ := hoi5
      obtain ⟨oa, oc, rfl⟩ := own_slice hoo
      have co : w5.cell? ⟨b, 0, none⟩ = some (.slice oa L.length oc) := cell_of_row _ _ _ _ _ _ hob
      have HP0 : Hid (PB w5 w5 B len 0 (.slice (some ⟨g5, 0, none⟩) 2 2) L []) := hidn (by
        refine ⟨?_, ⟨by simp [nb], by simp [isB], fun i => by rw [bitAt_out _ _ (by simp)]; simp⟩, Below.refl _ _, Lib.OthersKept.refl _ _ _⟩
        rw [List.append_nil]
        exact own_mono hown5 (by omega))
      have HSrc : Hid (∀ j, j < L.length → ∃ g, oa = some ⟨g, 0, none⟩ ∧ (∃ c fz, w5.heap[g]? = some (.cells c 4 fz)) ∧ w5.cell? ⟨g, j, none⟩ = some (.bool (L.getD j false))) := hidn (by
        intro j hj
        obtain ⟨g, cp, hv, hg⟩ := own_pos' hoo (by omega)
        cases hv
        refine ⟨g, rfl, Lib.ownsRowF_kind (World.ownsRowF_of hoo) g rfl, ?_⟩
        have := hoo.cellAt j (by omega)
        rw [vt_getE _ _ hj] at this
        exact this)
      have hmL : L.length ≤ 9830250 := hlnb
      obtain ⟨mL, hmLe⟩ : ∃ mL, mL = L.length := ⟨_, rfl⟩
      rw [← hmLe] at co hmL
      have HML := hidn hmLe
      clear hmLe hown5 hoo hob hoi hb5 hln hlnb hg5
      go_wp2_with fail
      go_loopw [7, 91] (fun bv iv wr => ∃ (q : Nat) (ys : List Nat), q ≤ mL ∧ iv = .int .i64 (q : Int) ∧ PB w5 wr B len q bv L ys) (fun _ iv _ => mL - (intOf iv).toNat)
      case atStart => exact ⟨0, [], Nat.zero_le _, rfl, HP0.out⟩
      case round =>
        obtain ⟨q, ys, hq, rfl, hpb⟩ := hrel
        obtain ⟨va, vc, rfl⟩ := own_slice hpb.1
        have hBr : B ≤ wr.heap.size := by have := hpb.2.2.1.size; omega
        by_cases hlt2 : q < mL
        · obtain ⟨g, rfl, ⟨c, fz, hgb⟩, hcell⟩ := HSrc.out q (by rw [← HML.out]; omega)
          have hgr := hpb.2.2.2 g _ hgb (fun h => by cases h) (fun c f h => by cases h)
          obtain ⟨bt, hbt⟩ : ∃ bt, L.getD q false = bt := ⟨_, rfl⟩
          rw [hbt] at hcell
          have hcw : wr.cell? ⟨g, q, none⟩ = some (.bool bt) := by
            have e1 := cell_of_row _ _ q _ _ _ hgb
            have e2 := cell_of_row _ _ q _ _ _ hgr
            rw [e2, ← e1]
            exact hcell
          have HKL : Hid (q < L.length) := hidn (by rw [← HML.out]; exact hlt2)
          have HBE := hidn hbt
          have hqi : (q : Int) < (mL : Int) := by omega
          clear hbt hgb hgr hcell
          by_cases h8 : q % 8 = 0
          · have b8 : (((q : Int) % 8) == 0) = true := beq_iff_eq.2 (by omega)
            have H8 := hidn h8
            obtain ⟨m7, hm7⟩ : ∃ m7, m7 = 2 + nb q := ⟨_, rfl⟩
            have hm7b : m7 ≤ 1300000 := by rw [hm7]; unfold nb; omega
            have hnb1 : nb (q + 1) = nb q + 1 := nb_succ0 h8
            have hq8 : nb q = q / 8 := by unfold nb; omega
            have HP := hidn hpb
            have hown := hpb.1
            have hzl : (putB len 2 ++ ys).length = 2 + nb q := by have := hown.1; simpa [vb] using this
            rw [← hm7] at hown ⊢
            have HM7 := hidn hm7
            clear hpb h8 hm7
            go_wp2_with (at_builtin; refine wpList_append_own _ rfl _ _ 24 rfl B 5 i0 (.int .u8 0) 1 1 Tryd.underlying24 hi hz0 hz1 hz2 rfl (by decide) _ m7 _ rfl (hown.alloc _) ⟨wr.heap.size, 0, none⟩ 1 1 [.int .u8 0] rfl rfl ?d1 ?d2 ?d3 ?d4 ?d5 ?_)
            case d1 =>
              intro j u hj
              match j, hj with
              | 0, hj => simp at hj; subst hj; simp [Addr.add]
            case d2 => intro u hu; simp at hu; subst hu; rfl
            case d3 => unfold maxLen; omega
            case d4 => omega
            case d5 => simp; omega
            intro v1 w1 hown1 hgrow1 _
            obtain ⟨g1, cap1, hv1, hg1⟩ := own_pos' hown1 (by omega)
            subst hv1
            obtain ⟨n7, hn7⟩ : ∃ n7, n7 = m7 + 1 := ⟨_, rfl⟩
            obtain ⟨x7, hx7⟩ : ∃ x7, x7 = 2 + q / 8 := ⟨_, rfl⟩
            have HH : Hid (PHB w5 w1 B len q g1 cap1 L (ys ++ [0])) := hidn (phb_grow HP.out H8.out (by have := HKL.out; omega) hBr (by rw [HM7.out] at hown1; exact hown1) (by rw [HM7.out] at hgrow1; exact hgrow1) hg1)
            have HN7 : Hid (n7 = 2 + nb (q + 1)) := hidn (by have := HM7.out; omega)
            have HX7 := hidn hx7
            have r7 : (n7 : Int) - 1 = (x7 : Int) := by have := HM7.out; omega
            have b7 : x7 < 1300000 := by omega
            have l7 : x7 < n7 := by have := HM7.out; omega
            have hyl : (ys ++ [0]).getD (q / 8) 0 < 256 := getD_lt HH.out.2.1 _
            have cy : w1.cell? ⟨g1, x7, none⟩ = some (.int .u8 (((ys ++ [0]).getD (q / 8) 0 : Nat) : Int)) := by
              have := HH.out.1.cellAt (2 + q / 8) (by omega)
              rw [vb_getD _ _ (by simp [putB_length]; have := HH.out.2.2.1; simp at this; omega), headed_getD, ← hx7] at this
              exact this
            have fy : w1.frozen? ⟨g1, x7, none⟩ = false := HH.out.1.frozenAt _
            have hor := or_bit ((ys ++ [0]).getD (q / 8) 0) q hyl
            rw [← hn7] at hown1 ⊢
            clear hown hown1 hgrow1 HP hn7 hx7 hnb1 hq8 hzl HM7 hm7b
            obtain ⟨y, hye⟩ : ∃ y, (ys ++ [0]).getD (q / 8) 0 = y := ⟨_, rfl⟩
            rw [hye] at cy hor
            have HY := hidn hye
            clear hye hyl
            cases bt with
            | true =>
              go_wp2_with fail
              go_region
              go_wp2_with fail
              go_roundw
              case rel => exact ⟨q + 1, _, by omega, by go_num, by rw [HN7.out, HX7.out]; exact pb_yes HH.out HKL.out HBE.out _ (by rw [HY.out])⟩
              case measure => simp [intOf]; omega
            | false =>
              go_wp2_with fail
              go_roundw
              case rel => exact ⟨q + 1, _, by omega, by go_num, by rw [HN7.out]; exact pb_no HH.out HKL.out HBE.out⟩
              case measure => simp [intOf]; omega
          · have b8 : (((q : Int) % 8) == 0) = false := beq_eq_false_iff_ne.2 (by omega)
            obtain ⟨g1, cap1, hv1, hg1⟩ := own_pos' hpb.1 (by omega)
            cases hv1
            obtain ⟨n7, hn7⟩ : ∃ n7, n7 = 2 + nb q := ⟨_, rfl⟩
            obtain ⟨x7, hx7⟩ : ∃ x7, x7 = 2 + q / 8 := ⟨_, rfl⟩
            have hnb1 : nb (q + 1) = nb q := nb_succ1 h8
            have hq8 : nb q = q / 8 + 1 := by unfold nb; omega
            have HH : Hid (PHB w5 wr B len q g1 vc L ys) := hidn (phb_keep hpb h8 (by have := HKL.out; omega) hg1)
            have HN7 : Hid (n7 = 2 + nb (q + 1)) := hidn (by omega)
            have HX7 := hidn hx7
            have r7 : (n7 : Int) - 1 = (x7 : Int) := by omega
            have b7 : x7 < 1300000 := by omega
            have l7 : x7 < n7 := by omega
            have hyl : ys.getD (q / 8) 0 < 256 := getD_lt HH.out.2.1 _
            have cy : wr.cell? ⟨g1, x7, none⟩ = some (.int .u8 ((ys.getD (q / 8) 0 : Nat) : Int)) := by
              have := HH.out.1.cellAt (2 + q / 8) (by omega)
              rw [vb_getD _ _ (by simp [putB_length]; have := HH.out.2.2.1; omega), headed_getD, ← hx7] at this
              exact this
            have fy : wr.frozen? ⟨g1, x7, none⟩ = false := HH.out.1.frozenAt _
            have hor := or_bit (ys.getD (q / 8) 0) q hyl
            rw [← hn7]
            clear hpb hn7 hx7 hnb1 hq8 h8
            obtain ⟨y, hye⟩ : ∃ y, ys.getD (q / 8) 0 = y := ⟨_, rfl⟩
            rw [hye] at cy hor
            have HY := hidn hye
            clear hye hyl
            cases bt with
            | true =>
              go_wp2_with fail
              go_region
              go_wp2_with fail
              go_roundw
              case rel => exact ⟨q + 1, _, by omega, by go_num, by rw [HN7.out, HX7.out]; exact pb_yes HH.out HKL.out HBE.out _ (by rw [HY.out])⟩
              case measure => simp [intOf]; omega
            | false =>
              go_wp2_with fail
              go_roundw
              case rel => exact ⟨q + 1, _, by omega, by go_num, by rw [HN7.out]; exact pb_no HH.out HKL.out HBE.out⟩
              case measure => simp [intOf]; omega
        · have hqe : q = mL := by omega
          have HF : Hid (IsPack (putB len 2 ++ ys) (encS l) ∧ wr.ownsRow w.heap.size 5 1 (.slice va (2 + nb q) vc) (putB len 2 ++ ys).length (vb (putB len 2 ++ ys)) ∧ Below w.heap.size w wr) := hidn (by
            rw [hqe, HML.out] at hpb
            have h1 := pb_end hpb
            rw [HLE.out] at h1
            refine ⟨h1.1, ?_, ?_⟩
            · rw [hqe, HML.out, ← HBE.out]; exact h1.2
            · rw [← HBE.out]; exact hbl5.trans hpb.2.2.1)
          have hqi : ¬ (q : Int) < (mL : Int) := by omega
          obtain ⟨n7, hn7⟩ : ∃ n7, n7 = 2 + nb q := ⟨_, rfl⟩
          rw [← hn7] at HF ⊢
          clear hpb hqe hn7
          go_wp2_with fail
          go_ret2
          exact ⟨.slice va n7 vc, rfl, putB len 2 ++ ys, HF.out⟩
end Go.Proofs.YtcjhkpcnhnnjbaaDoor.Cd
