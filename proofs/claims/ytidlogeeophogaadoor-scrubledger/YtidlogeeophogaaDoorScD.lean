/- scrub: awake; a disk that no call made; ScrubNobody. -/
import Derived.Test.YtidlogeeophogaaDoorScC
import Derived.Test.YtidlogeeophogaaDoorSNobodyWalk
namespace Go.Proofs.YtidlogeeophogaaDoor
open Go.RowKit Go.Maps
set_option linter.unusedVariables false

def ancS : ByteArray := ⟨#[97, 110, 99, 104, 111, 114]⟩
abbrev ANC1 : Array Value := #[.int .i64 1, .int .i64 1, .int .i64 0, .int .i64 1, .int .i64 0, .int .i64 0, .int .i64 0, .int .i64 0, .int .i64 1, .int .i64 0]

theorem cells10 {w : World} {b : Nat} {t : TypeId} {x0 x1 x2 x3 x4 x5 x6 x7 x8 x9 : Value} (h : w.heap[b]? = some (.cells #[x0, x1, x2, x3, x4, x5, x6, x7, x8, x9] t (0, 0))) :
    w.cell? ⟨b, 0, none⟩ = some x0 ∧ w.cell? ⟨b, 1, none⟩ = some x1 ∧ w.cell? ⟨b, 2, none⟩ = some x2 ∧ w.cell? ⟨b, 3, none⟩ = some x3 ∧ w.cell? ⟨b, 4, none⟩ = some x4 ∧ w.cell? ⟨b, 5, none⟩ = some x5 ∧ w.cell? ⟨b, 6, none⟩ = some x6 ∧ w.cell? ⟨b, 7, none⟩ = some x7 ∧ w.cell? ⟨b, 8, none⟩ = some x8 ∧ w.cell? ⟨b, 9, none⟩ = some x9 :=
  ⟨cell_of_row _ _ _ _ _ _ h, cell_of_row _ _ _ _ _ _ h, cell_of_row _ _ _ _ _ _ h, cell_of_row _ _ _ _ _ _ h, cell_of_row _ _ _ _ _ _ h, cell_of_row _ _ _ _ _ _ h, cell_of_row _ _ _ _ _ _ h, cell_of_row _ _ _ _ _ _ h, cell_of_row _ _ _ _ _ _ h, cell_of_row _ _ _ _ _ _ h⟩

theorem scNames1 (w : World) : Calls Tryd.prog 30 #[.int .i64 1] w fun e w' => e = .returned (.tuple #[.string scM, .string scT]) ∧ w' = w := scNames w
theorem scName1 (w : World) : Calls Tryd.prog 33 #[.int .i64 1] w fun e w' => e = .returned (.string scW) ∧ w' = w := scName w
theorem withPair1 (w : World) (base : Nat) (v : Value) (n : Nat) (xs : List Value) (hown : w.ownsRow base 32 4 v n xs) (hle : base ≤ w.heap.size) (hn : n ≤ 500) (s : ByteArray) :
    Calls Tryd.prog 31 #[v, .string s, .int .i64 1] w fun e w' => ∃ v', e = .returned v' ∧ w'.ownsRow base 32 4 v' (n + 1) (xs ++ grpV 1 s 0 0) ∧ Below base w w' := withPair_any w base v n xs hown hle hn s 1 (by omega)
theorem withPair0 (w : World) (base : Nat) (v : Value) (n : Nat) (xs : List Value) (hown : w.ownsRow base 32 4 v n xs) (hle : base ≤ w.heap.size) (hn : n ≤ 500) (s : ByteArray) :
    Calls Tryd.prog 31 #[v, .string s, .int .i64 0] w fun e w' => ∃ v', e = .returned v' ∧ w'.ownsRow base 32 4 v' (n + 0) (xs ++ []) ∧ Below base w w' := withPair_any w base v n xs hown hle hn s 0 (by omega)

theorem own_belowG {w w' : World} {base e size n : Nat} {v : Value} {xs : List Value} (h : w.ownsRow base e size v n xs) (hb : Below w.heap.size w w') : w'.ownsRow base e size v n xs := own_otherG h (fun b hb' => hb.block b (h.lt b hb').2)

theorem anc1_can : ancB 1 1 0 1 0 0 1 0 = true := by decide +kernel

set_option maxHeartbeats 4000000 in
set_option maxRecDepth 100000 in
theorem groups_new (w : World) (d : Nat) (F : Nat → Prop) (N : Nat) (free fuse : Int) (h : DiskOf w d F N (fun _ => []) free fuse) :
    Calls Tryd.prog 14 #[.pointer (some ⟨d, 0, none⟩), .agg ANC1, .slice none 0 0] w fun e w' => ∃ v base, e = .returned v ∧ w'.ownsRow base 32 4 v 3 (grpV 1 ancS 0 0 ++ grpV 1 scM 0 0 ++ grpV 1 scT 0 0) ∧ Below w.heap.size w w' := by
  obtain ⟨w1, hw1⟩ : ∃ w1, w1 = w.alloc (.cells ANC1 34) := ⟨_, rfl⟩
  have hB1 : Below w.heap.size w w1 := by rw [hw1]; exact (Below.refl _ _).alloc (Nat.le_refl _) _
  have h4 : w1.heap[w.heap.size]? = some (.cells ANC1 34 (0, 0)) := by rw [hw1]; exact heap_alloc_new _ _
  obtain ⟨base, hbase⟩ : ∃ base, base = w1.heap.size := ⟨_, rfl⟩
  have hD := h.below hB1
  have HD := hidn (fun (wx : World) (hx : Below base w1 wx) => DiskOf.below hD (w' := wx) (by rw [← hbase]; exact hx))
  have H4 := hidn (fun (wx : World) (hx : Below base w1 wx) => cells10 ((hx.block w.heap.size (by rw [hbase]; exact (Array.getElem?_eq_some_iff.1 h4).1)).trans h4))
  have H4b := hidn (fun (wx : World) (hx : Below base w1 wx) => (hx.block w.heap.size (by rw [hbase]; exact (Array.getElem?_eq_some_iff.1 h4).1)).trans h4)
  have HB1 := hidn hB1
  have HBA := hidn hbase
  have HSZ : Hid (∀ (wx : World), Below base w1 wx → base ≤ wx.heap.size) := hidn (fun wx hx => by rw [hbase]; exact hx.size)
  have HLW : Hid (w.heap.size ≤ base) := hidn (by rw [hbase]; exact hB1.size)
  obtain ⟨m0, hm0⟩ : ∃ m0, m0 = scM := ⟨_, rfl⟩
  obtain ⟨t0, ht0⟩ : ∃ t0, t0 = scT := ⟨_, rfl⟩
  obtain ⟨s0, hs0⟩ : ∃ s0, s0 = scW := ⟨_, rfl⟩
  have hmz : m0.size ≤ 1000 := by rw [hm0]; exact Nat.le_trans sc_sizes.1 (by omega)
  have htz : t0.size ≤ 1000 := by rw [ht0]; exact Nat.le_trans sc_sizes.2.1 (by omega)
  have HNm := hidn (fun wx => scNames1 wx)
  have HWn := hidn (fun wx => scName1 wx)
  rw [← hm0, ← ht0] at HNm
  rw [← hs0] at HWn
  rw [← hm0, ← ht0]
  clear hm0 ht0 hs0 hD h h4 hB1 hbase
  go_enter Tryd.func14, Tryd.ntmps14
  go_wp2_with fail
  rw [← hw1]
  clear hw1
  have hbw : base = w1.heap.size := HBA.out
  have hd1 := HD.out w1 (Below.refl _ _)
  refine (scMade _ d F N _ free fuse hd1 rfl).mono ?_
  rintro e w2 ⟨rfl, hb2⟩
  have HB2 : Hid (Below base w1 w2) := hidn (by rw [hbw]; exact hb2)
  obtain ⟨a0, a1, a2, a3, a4, a5, a6, a7, a8, a9⟩ := H4.out w2 HB2.out
  clear hd1 hb2 hbw
  go_wp2_with fail
  refine (can_any _ 1 1 0 1 0 0 0 0 1 0).mono ?_
  rw [anc1_can]
  rintro e w3 ⟨rfl, hb3⟩
  have HB3 : Hid (Below base w1 w3) := hidn (HB2.out.trans (hb3.mono (HSZ.out _ HB2.out)))
  clear hb3 a0 a1 a2 a3 a4 a5 a6 a7 a8 a9
  obtain ⟨a0, a1, a2, a3, a4, a5, a6, a7, a8, a9⟩ := H4.out w3 HB3.out
  go_wp2_with fail
  refine (scCount_nil _).mono ?_
  rintro e w3' ⟨rfl, hw3⟩
  subst hw3
  go_wp2_with fail
  refine (HNm.out _).mono ?_
  rintro e w3'' ⟨rfl, hw3⟩
  subst hw3
  go_wp2_with fail
  have hsz3 := HSZ.out _ HB3.out
  refine (withPair1 _ base (.slice none 0 0) 0 [] (World.ownsRow_nil _ _ _ _) hsz3 (by omega) ancS).mono ?_
  clear hsz3 a0 a1 a2 a3 a4 a5 a6 a7 a8 a9
  rintro e w4 ⟨v4, rfl, ho4, hb4'⟩
  have HB4 : Hid (Below base w1 w4) := hidn (HB3.out.trans hb4')
  have HO4 := hidn ho4
  clear ho4 hb4'
  go_wp2_with fail
  refine (scExtents_none _ d F N free fuse (HD.out w4 HB4.out) m0 hmz).mono ?_
  rintro e w5 ⟨rfl, hb5⟩
  have HO5 := hidn (own_belowG HO4.out hb5)
  have HB5 : Hid (Below base w1 w5) := hidn (HB4.out.trans (hb5.mono (HSZ.out _ HB4.out)))
  clear hb5
  go_wp2_with fail
  refine (withPair1 _ base v4 _ _ HO5.out (HSZ.out _ HB5.out) (by omega) m0).mono ?_
  rintro e w6 ⟨v6, rfl, ho6, hb6⟩
  have HB6 : Hid (Below base w1 w6) := hidn (HB5.out.trans hb6)
  have HO6 := hidn ho6
  clear ho6 hb6
  go_wp2_with fail
  refine (scExtents_none _ d F N free fuse (HD.out w6 HB6.out) t0 htz).mono ?_
  rintro e w7 ⟨rfl, hb7⟩
  have HO7 := hidn (own_belowG HO6.out hb7)
  have HB7 : Hid (Below base w1 w7) := hidn (HB6.out.trans (hb7.mono (HSZ.out _ HB6.out)))
  clear hb7
  go_wp2_with fail
  refine (withPair1 _ base v6 _ _ HO7.out (HSZ.out _ HB7.out) (by omega) t0).mono ?_
  rintro e w8 ⟨v8, rfl, ho8, hb8⟩
  have HB8 : Hid (Below base w1 w8) := hidn (HB7.out.trans hb8)
  have HO8 := hidn ho8
  clear ho8 hb8
  go_wp2_with fail
  refine wp_region_noPanic ?_
  refine wp_region_held_drew (S := Below base w1) (by kernel_rfl) (HB8.out.drew) (fun hHeld => ?_)
  refine drawn_take (i := 0) (v := v8) (some 49) rfl rfl (by kernel_rfl) (by kernel_rfl) (by kernel_rfl) (fun _ _ _ h => h) (Or.inl ⟨by kernel_rfl, fun wq hw => by go_simp⟩) hHeld ?_
  simp only [Act.put, List.setIfInBounds_toArray, List.set_cons_succ, List.set_cons_zero]
  refine drawn_take (i := 1) (v := .pointer (some ⟨w.heap.size, 3, none⟩)) (some 50) rfl rfl (by kernel_rfl) (by kernel_rfl) (by kernel_rfl) (fun _ _ _ h => h) (Or.inl ⟨by kernel_rfl, fun wq hw => by go_simp⟩) hHeld ?_
  simp only [Act.put, List.setIfInBounds_toArray, List.set_cons_succ, List.set_cons_zero]
  refine drawn_take (i := 2) (v := .int .i64 1) (some 51) rfl rfl (by kernel_rfl) (by kernel_rfl) (by kernel_rfl) (fun _ _ _ h => h) (Or.inl ⟨by kernel_rfl, fun wq hw => by have q := (H4.out wq hw).2.2.2.1; go_simp⟩) hHeld ?_
  simp only [Act.put, List.setIfInBounds_toArray, List.set_cons_succ, List.set_cons_zero]
  refine drawn_take (i := 4) (v := .pointer (some ⟨w.heap.size, 4, none⟩)) (some 53) rfl rfl (by kernel_rfl) (by kernel_rfl) (by kernel_rfl) (fun _ _ _ h => h) (Or.inl ⟨by kernel_rfl, fun wq hw => by go_simp⟩) hHeld ?_
  simp only [Act.put, List.setIfInBounds_toArray, List.set_cons_succ, List.set_cons_zero]
  refine drawn_take (i := 5) (v := .int .i64 0) (some 54) rfl rfl (by kernel_rfl) (by kernel_rfl) (by kernel_rfl) (fun _ _ _ h => h) (Or.inl ⟨by kernel_rfl, fun wq hw => by have q := (H4.out wq hw).2.2.2.2.1; go_simp⟩) hHeld ?_
  simp only [Act.put, List.setIfInBounds_toArray, List.set_cons_succ, List.set_cons_zero]
  refine wpAnyH_ready (rs := [3]) (by kernel_rfl) (by simp) ?_
  refine rdy_call (i := 3) rfl rfl (some 52) rfl 33 #[.int .i64 1] (callS1 (x := 51) rfl (fun _ _ => rfl) (by kernel_rfl)) (fun r w9 => r = .string s0 ∧ w9 = w8.drew) ((HWn.out _).mono (by rintro e w9 ⟨rfl, h9⟩; exact ⟨_, rfl, rfl, h9⟩)) (fun r w9 hR => ?_) rdy_nil
  obtain ⟨rfl, rfl⟩ := hR
  refine ⟨hHeld, fun hHeld => ?_⟩
  simp only [Act.put, List.setIfInBounds_toArray, List.set_cons_succ, List.set_cons_zero]
  have ho9 := own_belowG HO8.out (w' := w8.drew) (Below.refl _ _).drew
  refine wpAnyH_ready (rs := [6]) (by kernel_rfl) (by simp) ?_
  refine rdy_call (i := 6) rfl rfl (some 55) rfl 31 #[v8, .string s0, .int .i64 0] (callS3 (x := 49) (y := 52) (z := 54) rfl (fun _ _ => rfl) (by kernel_rfl) (by kernel_rfl) (by kernel_rfl)) (fun r w9 => w9.ownsRow base 32 4 r 3 (grpV 1 ancS 0 0 ++ grpV 1 m0 0 0 ++ grpV 1 t0 0 0) ∧ Below base w8.drew w9) ((withPair0 _ base v8 _ _ ho9 (HSZ.out _ HB8.out.drew) (by omega) s0).mono (by rintro e w9 ⟨v9, rfl, h9, hb9⟩; exact ⟨_, rfl, by simpa using h9, hb9⟩)) (fun r w9 hR => ?_) rdy_nil
  obtain ⟨ho10, hb10⟩ := hR
  refine ⟨hHeld.trans hb10, fun hHeld => ?_⟩
  simp only [Act.put, List.setIfInBounds_toArray, List.set_cons_succ, List.set_cons_zero]
  have HB10 := hidn hHeld
  have HO10 := hidn ho10
  clear hb10 ho10 ho9
  refine drawn_take (i := 7) (v := r) (some 9) rfl rfl (by kernel_rfl) (by kernel_rfl) (by kernel_rfl) (fun _ _ _ h => h) (Or.inl ⟨by kernel_rfl, fun wq hw => by go_simp⟩) hHeld ?_
  simp only [Act.put, List.setIfInBounds_toArray, List.set_cons_succ, List.set_cons_zero]
  refine wpAnyH_done (by kernel_rfl) ?_ _
  refine NoPanic.normal ?_
  clear hHeld
  go_wp2_with fail
  go_loopw [9, 58] (fun gv iv wr => r = gv ∧ iv = .int .i64 0 ∧ w9 = wr) (fun _ _ _ => 0)
  case atStart => exact ⟨rfl, rfl, rfl⟩
  case round =>
    obtain ⟨rfl, rfl, rfl⟩ := hrel
    go_wp2
    go_ret
    exact ⟨_, _, rfl, HO10.out, HB1.out.trans (HB10.out.mono HLW.out)⟩

set_option maxHeartbeats 2000000 in
set_option maxRecDepth 100000 in
theorem awake20_any (w : World) : Calls Tryd.prog 10 #[] w fun e w' => e = .returned (.bool true) ∧ Below w.heap.size w w' := by
  go_enter Tryd.func10, Tryd.ntmps10
  go_wp2_with fail
  refine (new_any _ 10 (by omega)).mono ?_
  rintro e w1 ⟨rfl, hD, hb1, hs1⟩
  have HG := hidn (groups_new w1 _ _ _ _ _ hD)
  have HB1 := hidn hb1
  clear hD hb1 hs1
  go_wp2_with fail
  refine HG.out.mono ?_
  rintro e w2 ⟨v, base, rfl, ho, hb2⟩
  have HB2 := hidn (HB1.out.trans (hb2.mono HB1.out.size))
  obtain ⟨g, c, rfl⟩ : ∃ g c, v = .slice (some ⟨g, 0, none⟩) 3 c := by
    rcases ho.2 with ⟨_, h0⟩ | ⟨g, cap, cur, rfl, _⟩
    · omega
    · exact ⟨_, _, rfl⟩
  have c1 : w2.cell? ⟨g, 1, none⟩ = some (.string ancS) := by
    have h1 := ho.cells (g := g) rfl 1 (.string ancS) rfl
    rw [add_none] at h1
    exact h1
  have he : (ancS.toList == [97, 110, 99, 104, 111, 114]) = true := by decide +kernel
  obtain ⟨an, han⟩ : ∃ an, an = ancS := ⟨_, rfl⟩
  rw [← han] at c1 he
  clear ho hb2 HG han
  go_wp2
  go_ret
  exact ⟨rfl, HB2.out⟩

set_option maxHeartbeats 1000000 in
theorem scMade_un (w : World) (v : Value) (h : Unmade w v) :
    Calls Tryd.prog 22 #[v] w fun e w' => e = .returned (.bool false) ∧ Below w.heap.size w w' := by
  go_enter Tryd.func22, Tryd.ntmps22
  go_wp2_with fail
  refine (read_un _ v h _ _).mono ?_
  rintro e w1 ⟨rfl, hb⟩
  go_wp2
  go_ret
  exact ⟨rfl, hb⟩

set_option maxHeartbeats 1000000 in
theorem scMend_un (w : World) (v : Value) (h : Unmade w v) (x0 x1 x2 x3 : Value) :
    Calls Tryd.prog 12 #[v, .agg #[x0, x1, x2, x3]] w fun e w' => e = .returned (.tuple #[.bool false, .int .i64 2]) ∧ Below w.heap.size w w' := by
  have hb1 := below1 w (.cells #[x0, x1, x2, x3] 32)
  have HU := hidn (h.below hb1)
  have HB := hidn hb1
  clear h hb1
  go_enter Tryd.func12, Tryd.ntmps12
  go_wp2_with fail
  refine (scMade_un _ v HU.out).mono ?_
  rintro e w1 ⟨rfl, hb⟩
  have HB2 := hidn (HB.out.trans (hb.mono HB.out.size))
  clear hb
  go_wp2
  go_ret2
  exact ⟨rfl, HB2.out⟩

set_option maxHeartbeats 1000000 in
theorem scBad_un (w : World) (v : Value) (h : Unmade w v) (x0 x1 x2 x3 : Value) :
    Calls Tryd.prog 13 #[v, .agg #[x0, x1, x2, x3]] w fun e w' => e = .returned (.int .i64 0) ∧ Below w.heap.size w w' := by
  have hb1 := below1 w (.cells #[x0, x1, x2, x3] 32)
  have HU := hidn (h.below hb1)
  have HB := hidn hb1
  clear h hb1
  go_enter Tryd.func13, Tryd.ntmps13
  go_wp2_with fail
  refine (scMade_un _ v HU.out).mono ?_
  rintro e w1 ⟨rfl, hb⟩
  have HB2 := hidn (HB.out.trans (hb.mono HB.out.size))
  clear hb
  go_wp2
  go_ret
  exact ⟨rfl, HB2.out⟩

set_option maxHeartbeats 1000000 in
theorem scGroups_un (w : World) (v : Value) (h : Unmade w v) (y0 y1 y2 y3 y4 y5 y6 y7 y8 y9 : Value) :
    Calls Tryd.prog 14 #[v, .agg #[y0, y1, y2, y3, y4, y5, y6, y7, y8, y9], .slice none 0 0] w fun e w' => e = .returned (.slice none 0 0) ∧ Below w.heap.size w w' := by
  have hb1 := below1 w (.cells #[y0, y1, y2, y3, y4, y5, y6, y7, y8, y9] 34)
  have HU := hidn (h.below hb1)
  have HB := hidn hb1
  clear h hb1
  go_enter Tryd.func14, Tryd.ntmps14
  go_wp2_with fail
  refine (scMade_un _ v HU.out).mono ?_
  rintro e w1 ⟨rfl, hb⟩
  have HB2 := hidn (HB.out.trans (hb.mono HB.out.size))
  clear hb
  go_wp2
  go_ret
  exact ⟨rfl, HB2.out⟩
end Go.Proofs.YtidlogeeophogaaDoor
