/- The disk: the names of all files. -/
import Derived.Test.YtdppolelakbbiaaGreatDoorMb
import Derived.Test.YtdppolelakbbiaaGreatDoorIter
import Derived.Test.YtdppolelakbbiaaGreatDoorMk
import Derived.Test.YtdppolelakbbiaaGreatDoorDrawn
import Derived.Test.YtdppolelakbbiaaGreatDoorMc
import Derived.Test.YtdppolelakbbiaaGreatDoorMd
import Derived.Test.YtdppolelakbbiaaGreatDoorRyL
import Derived.Test.YtdppolelakbbiaaGreatDoorRyR
namespace Go.Proofs.YtdppolelakbbiaaGreatDoor
open Go.RowKit Go.Maps
set_option linter.unusedVariables false
def Names (M : List UInt8 → List Ext) (ts : List (List UInt8)) : Prop := ts.Nodup ∧ ts.Pairwise (fun a b => a ≤ b) ∧ (∀ s, s ∈ ts ↔ M s ≠ []) ∧ ∀ s ∈ ts, s.length ≤ maxLen
theorem has_iff {w : World} {d N : Nat} {F : Nat → Prop} {M : List UInt8 → List Ext} {free fuse : Int} {bm : Nat} {D : DataW Unit} {G C : List UInt8 → Nat} (h : DiskIs w d F N M free fuse bm D G C) (s : List UInt8) : Maps.has D (.string s) = true ↔ M s ≠ [] := by
 obtain ⟨h1, h2, h3, h4, h5, h6, h7⟩ := h
 constructor
 ·
  intro hs he
  rw [h5 s he] at hs
  cases hs
 ·
  intro hne
  cases hc : Maps.has D (.string s) with
  | true => rfl
  | false =>
   have e1 := (h6 s hne).1 .nil
   rw [atKey_of_not_has hc] at e1
   simp [encS] at e1
theorem names_of {w : World} {d N : Nat} {F : Nat → Prop} {M : List UInt8 → List Ext} {free fuse : Int} {bm : Nat} {D : DataW Unit} {G C : List UInt8 → Nat} (h : DiskIs w d F N M free fuse bm D G C) {ss : List (List UInt8)} (hp : ss.Perm (strKeys D)) : Names M (ss.mergeSort (fun x y => decide (x ≤ y))) := by
 have hh := has_iff h
 obtain ⟨h1, h2, h3, h4, h5, h6, h7⟩ := h
 have hle := strKeys_le h4 Tryz.underlying9
 obtain ⟨es, hD, hpw, _⟩ := h4.entries lawS
 obtain ⟨es', hD', hko⟩ := h4.keysOf
 obtain rfl : es = es' := by rw [hD] at hD'; simpa using hD'
 subst hD
 have hk : ∀ p ∈ es, ∃ x, p.1 = .string x := fun p hp => by
  obtain ⟨v, hv⟩ := hko p hp
  obtain ⟨x, _, hx, _⟩ := Maps.keyOf_str Tryz.underlying9 hv
  exact ⟨x, hx⟩
 have hnd : (strKeys (.map es)).Nodup := by
  show (es.map fun p => strOf p.1).Nodup
  refine List.pairwise_map.2 (hpw.imp_of_mem fun {p q} hp' hq' hne e => hne ?_)
  obtain ⟨a, ha⟩ := hk p hp'
  obtain ⟨b, hb⟩ := hk q hq'
  rw [ha, hb] at e ⊢
  exact congrArg _ e
 have hmem : ∀ x, x ∈ strKeys (.map es) ↔ M x ≠ [] := by
  intro x
  rw [← hh x, has_eq, List.any_eq_true]
  show x ∈ es.map (fun p => strOf p.1) ↔ _
  rw [List.mem_map]
  constructor
  ·
   rintro ⟨p, hp', rfl⟩
   obtain ⟨a, ha⟩ := hk p hp'
   exact ⟨p, hp', by rw [ha]; simp [Lit.sameKey, strOf]⟩
  ·
   rintro ⟨p, hp', hs⟩
   obtain ⟨a, ha⟩ := hk p hp'
   rw [ha] at hs
   exact ⟨p, hp', by rw [ha]; simpa [Lit.sameKey, strOf] using hs⟩
 have hP := (List.mergeSort_perm ss (fun x y => decide (x ≤ y))).trans hp
 refine ⟨hP.nodup_iff.2 hnd, ?_, fun s => (hP.mem_iff).trans (hmem s), fun s hs => hle s ((hP.mem_iff).1 hs)⟩
 have h := List.pairwise_mergeSort (le := fun x y : List UInt8 => decide (x ≤ y)) (fun a b c h1 h2 => by simp only [decide_eq_true_eq] at *; exact List.le_trans h1 h2) (fun a b => by simp only [Bool.or_eq_true, decide_eq_true_eq]; exact List.le_total a b) ss
 exact h.imp (fun h => of_decide_eq_true h)
set_option maxHeartbeats 2000000 in
theorem list_disk (w : World) (d : Nat) (F : Nat → Prop) (N : Nat) (M : List UInt8 → List Ext) (free fuse : Int) (h : DiskOf w d F N M free fuse) (hN : N ≤ 1000000) :
  Calls Tryz.prog 66 #[.pointer (some ⟨d, 0, none⟩)] w fun e w' => ∃ v ts, e = .returned v ∧ Names M ts ∧ w'.ownsRow w.heap.size 9 1 v ts.length (ts.map encStr) ∧ Below w.heap.size w w' := by
 obtain ⟨bm, D, G, C, hI⟩ := h.is
 have c0 := hI.c0
 have hown : w.ownsMap Tryz.prog 9 hd bm N D := hI.2.2.2.1
 have hsz := hown.size_le
 have hnm := fun ss hp => names_of hI (ss := ss) hp
 have hmax : Maps.size D ≤ maxLen := by unfold maxLen; omega
 have hbytes : Maps.size D * 16 ≤ 140737488355328 := by omega
 clear hI hsz
 have HK := fun wx => callsIn_wide.1 (Tryz.maps_Keys_113 (some bm) wx)
 have HS := callsIn_wide.1 (Tryz.slices_Sorted_keys_112_113 bm N D hd w hown hmax hbytes)
 have HK' := hidn HK
 have HS' := hidn HS
 clear HK HS hmax hbytes hown
 go_enter Tryz.func66, Tryz.ntmps66
 go_wp2_with fail
 refine (isMade_any _ d F N M free fuse h).mono ?_
 rintro e w1 ⟨rfl, rfl⟩
 go_wp2_with fail
 refine (HK'.out _).mono ?_
 rintro e w2 ⟨rfl, rfl⟩
 go_wp2_with fail
 refine HS'.out.mono ?_
 rintro e w3 ⟨v, ss, rfl, hS, hrow, hnil, hb⟩
 go_wp2_with fail
 go_ret
 refine ⟨v, _, rfl, hnm ss hS, ?_, ((Below.refl _ _).alloc (Nat.le_refl _) _).trans (hb.mono (by simp))⟩
 rw [List.length_mergeSort]
 exact ownsRow_base_a hrow (by simp)
end Go.Proofs.YtdppolelakbbiaaGreatDoor

namespace Go.Proofs.YtdppolelakbbiaaGreatDoor
open Go.RowKit Go.Maps
set_option linter.unusedVariables false
theorem neq_image (w : World) (xs ys : List Nat) (hx : xs.length = 128) (hy : ys.length = 128) :
  (binOp .neq 134 (.agg (vb xs).toArray) (.agg (vb ys).toArray)).run Tryz.prog w = .ok (.bool (!decide (xs = ys))) w := by
 obtain ⟨i0, hi, hz0, hz1, hz2⟩ := info_parts Tryz.info5
 have hc : Tryz.prog.cellsOf 5 = 1 := by kernel_rfl
 rw [run_neq_struct, run_equalIn_array w 9999 _ _ Tryz.underlying134 hi, hc, eqItems_vb w 9998 xs ys _ (fun i hi => by simp at hi; omega), all_getD xs ys 128 hx hy]
 rfl
set_option maxHeartbeats 1000000 in
theorem isDamaged_same (w : World) (g o : Nat) (xd xs xw : List Nat) (ld : xd.length = 128) (ls : xs.length = 128) (lw : xw.length = 128) (h1 : w.rangeAt g o (vb xd)) (h2 : w.rangeAt g (o + 128) (vb xs)) (h3 : w.rangeAt g (o + 256) (vb xw)) (he : xd = xs) :
  Calls Tryz.prog 114 #[.pointer (some ⟨g, o, none⟩)] w fun e w' => e = .returned (.bool false) ∧ Below w.heap.size w w' := by
 have hzs := (zero_of_info Tryz.infoImage).2
 have HSxd : Hid ((Tryz.prog.info? 134).map (·.size) = some (vb xd).length) := hidn (by rw [hzs, length_vb, ld])
 have HSxs : Hid ((Tryz.prog.info? 134).map (·.size) = some (vb xs).length) := hidn (by rw [hzs, length_vb, ls])
 have HSxw : Hid ((Tryz.prog.info? 134).map (·.size) = some (vb xw).length) := hidn (by rw [hzs, length_vb, lw])
 have hn1 := fun wx => neq_image wx xd xs ld ls
 have hn2 := fun wx => neq_image wx xd xw ld lw
 rw [decide_eq_true he] at hn1
 obtain ⟨bw, hbw⟩ : ∃ bw, bw = !decide (xd = xw) := ⟨_, rfl⟩
 rw [← hbw] at hn2
 have HBW := hidn hbw
 have HRG : Hid (w.drew.rangeAt g o (vb xd) ∧ w.drew.rangeAt g (o + 128) (vb xs) ∧ w.drew.rangeAt g (o + 256) (vb xw)) := hidn ⟨h1, h2, h3⟩
 clear hbw hzs h1 h2 h3 ld ls lw he
 go_enter Tryz.func114, Tryz.ntmps114
 go_wp2_with fail
 refine wp_region_noPanic ?_
 refine wp_region_held_drew (S := fun w' => w'.rangeAt g o (vb xd) ∧ w'.rangeAt g (o + 128) (vb xs) ∧ w'.rangeAt g (o + 256) (vb xw)) (by kernel_rfl) HRG.out (fun hHeld => ?_)
 refine dtk (i := 0) (v := .pointer (some ⟨g, o, none⟩)) (some 3) rfl rfl (by kernel_rfl) (by kernel_rfl) (fun wq hw => by go_simp) hHeld ?_
 simp only [Act.put, sQ1, sQ2, sQ3]
 refine dtk (i := 1) (v := .pointer (some ⟨g, o, none⟩)) (some 4) rfl rfl (by kernel_rfl) (by kernel_rfl) (fun wq hw => by go_simp) hHeld ?_
 simp only [Act.put, sQ1, sQ2, sQ3]
 refine dtk (i := 2) (v := .pointer (some ⟨g, o, none⟩)) (some 5) rfl rfl (by kernel_rfl) (by kernel_rfl) (fun wq hw => by go_simp) hHeld ?_
 simp only [Act.put, sQ1, sQ2, sQ3]
 refine drawn_take (i := 3) (v := .agg (vb xd).toArray) (some 6) rfl rfl (by kernel_rfl) (by kernel_rfl) (by kernel_rfl) (fun _ _ _ h => h) (yieldsIf_load_mid (by kernel_rfl) 134 (.tmp 5) (by kernel_rfl) g o (by kernel_rfl) (vb xd) _ (fun w h => h.1) Tryz.underlying134 rfl HSxd.out) hHeld ?_
 simp only [Act.put, sQ1, sQ2, sQ3]
 refine dtk (i := 4) (v := .pointer (some ⟨g, o, none⟩)) (some 7) rfl rfl (by kernel_rfl) (by kernel_rfl) (fun wq hw => by go_simp) hHeld ?_
 simp only [Act.put, sQ1, sQ2, sQ3]
 refine dtk (i := 5) (v := .pointer (some ⟨g, o, none⟩)) (some 8) rfl rfl (by kernel_rfl) (by kernel_rfl) (fun wq hw => by go_simp) hHeld ?_
 simp only [Act.put, sQ1, sQ2, sQ3]
 refine dtk (i := 6) (v := .pointer (some ⟨g, o + 128, none⟩)) (some 9) rfl rfl (by kernel_rfl) (by kernel_rfl) (fun wq hw => by go_simp) hHeld ?_
 simp only [Act.put, sQ1, sQ2, sQ3]
 refine drawn_take (i := 7) (v := .agg (vb xs).toArray) (some 10) rfl rfl (by kernel_rfl) (by kernel_rfl) (by kernel_rfl) (fun _ _ _ h => h) (yieldsIf_load_mid (by kernel_rfl) 134 (.tmp 9) (by kernel_rfl) g (o + 128) (by kernel_rfl) (vb xs) _ (fun w h => h.2.1) Tryz.underlying134 rfl HSxs.out) hHeld ?_
 simp only [Act.put, sQ1, sQ2, sQ3]
 refine dtk (i := 8) (v := .bool false) (some 11) rfl rfl (by kernel_rfl) (by kernel_rfl) (fun wq hw => by go_simp) hHeld ?_
 simp only [Act.put, sQ1, sQ2, sQ3]
 refine dtk (i := 9) (v := .bool false) (some 12) rfl rfl (by kernel_rfl) (by kernel_rfl) (fun wq hw => by go_simp) hHeld ?_
 simp only [Act.put, sQ1, sQ2, sQ3]
 refine drawn_take (i := 10) (v := undef) (some 13) rfl rfl (by kernel_rfl) (by kernel_rfl) (by kernel_rfl) (fun _ _ _ h => h) (Or.inr ⟨by kernel_rfl, rfl⟩) hHeld ?_
 simp only [Act.put, sQ1, sQ2, sQ3]
 refine drawn_take (i := 11) (v := undef) (some 14) rfl rfl (by kernel_rfl) (by kernel_rfl) (by kernel_rfl) (fun _ _ _ h => h) (Or.inr ⟨by kernel_rfl, rfl⟩) hHeld ?_
 simp only [Act.put, sQ1, sQ2, sQ3]
 refine drawn_take (i := 12) (v := undef) (some 15) rfl rfl (by kernel_rfl) (by kernel_rfl) (by kernel_rfl) (fun _ _ _ h => h) (Or.inr ⟨by kernel_rfl, rfl⟩) hHeld ?_
 simp only [Act.put, sQ1, sQ2, sQ3]
 refine drawn_take (i := 13) (v := undef) (some 16) rfl rfl (by kernel_rfl) (by kernel_rfl) (by kernel_rfl) (fun _ _ _ h => h) (Or.inr ⟨by kernel_rfl, rfl⟩) hHeld ?_
 simp only [Act.put, sQ1, sQ2, sQ3]
 refine drawn_take (i := 14) (v := undef) (some 17) rfl rfl (by kernel_rfl) (by kernel_rfl) (by kernel_rfl) (fun _ _ _ h => h) (Or.inr ⟨by kernel_rfl, rfl⟩) hHeld ?_
 simp only [Act.put, sQ1, sQ2, sQ3]
 refine drawn_take (i := 15) (v := undef) (some 18) rfl rfl (by kernel_rfl) (by kernel_rfl) (by kernel_rfl) (fun _ _ _ h => h) (Or.inr ⟨by kernel_rfl, rfl⟩) hHeld ?_
 simp only [Act.put, sQ1, sQ2, sQ3]
 refine drawn_take (i := 16) (v := undef) (some 19) rfl rfl (by kernel_rfl) (by kernel_rfl) (by kernel_rfl) (fun _ _ _ h => h) (Or.inr ⟨by kernel_rfl, rfl⟩) hHeld ?_
 simp only [Act.put, sQ1, sQ2, sQ3]
 refine drawn_take (i := 17) (v := undef) (some 20) rfl rfl (by kernel_rfl) (by kernel_rfl) (by kernel_rfl) (fun _ _ _ h => h) (Or.inr ⟨by kernel_rfl, rfl⟩) hHeld ?_
 simp only [Act.put, sQ1, sQ2, sQ3]
 refine drawn_take (i := 18) (v := undef) (some 21) rfl rfl (by kernel_rfl) (by kernel_rfl) (by kernel_rfl) (fun _ _ _ h => h) (Or.inr ⟨by kernel_rfl, rfl⟩) hHeld ?_
 simp only [Act.put, sQ1, sQ2, sQ3]
 refine dtk (i := 19) (v := .bool false) (some 22) rfl rfl (by kernel_rfl) (by kernel_rfl) (fun wq hw => by go_simp) hHeld ?_
 simp only [Act.put, sQ1, sQ2, sQ3]
 refine dtk (i := 20) (v := .bool false) (some 2) rfl rfl (by kernel_rfl) (by kernel_rfl) (fun wq hw => by go_simp) hHeld ?_
 simp only [Act.put, sQ1, sQ2, sQ3]
 refine wpAnyH_done (by kernel_rfl) ?_ _
 refine NoPanic.normal ?_
 clear hHeld hn1 hn2
 go_wp2
 go_ret
 exact ⟨rfl, (Below.refl _ _).drew⟩
set_option maxHeartbeats 1000000 in
theorem isDamaged_other (w : World) (g o : Nat) (xd xs xw : List Nat) (ld : xd.length = 128) (ls : xs.length = 128) (lw : xw.length = 128) (h1 : w.rangeAt g o (vb xd)) (h2 : w.rangeAt g (o + 128) (vb xs)) (h3 : w.rangeAt g (o + 256) (vb xw)) (hne : xd ≠ xs) :
  Calls Tryz.prog 114 #[.pointer (some ⟨g, o, none⟩)] w fun e w' => e = .returned (.bool (!decide (xd = xw))) ∧ Below w.heap.size w w' := by
 have hzs := (zero_of_info Tryz.infoImage).2
 have HSxd : Hid ((Tryz.prog.info? 134).map (·.size) = some (vb xd).length) := hidn (by rw [hzs, length_vb, ld])
 have HSxs : Hid ((Tryz.prog.info? 134).map (·.size) = some (vb xs).length) := hidn (by rw [hzs, length_vb, ls])
 have HSxw : Hid ((Tryz.prog.info? 134).map (·.size) = some (vb xw).length) := hidn (by rw [hzs, length_vb, lw])
 have hn1 := fun wx => neq_image wx xd xs ld ls
 have hn2 := fun wx => neq_image wx xd xw ld lw
 rw [decide_eq_false hne] at hn1
 obtain ⟨bw, hbw⟩ : ∃ bw, bw = !decide (xd = xw) := ⟨_, rfl⟩
 rw [← hbw] at hn2
 rw [← hbw]
 have HRG : Hid (w.drew.rangeAt g o (vb xd) ∧ w.drew.rangeAt g (o + 128) (vb xs) ∧ w.drew.rangeAt g (o + 256) (vb xw)) := hidn ⟨h1, h2, h3⟩
 clear hbw hzs h1 h2 h3 ld ls lw hne
 go_enter Tryz.func114, Tryz.ntmps114
 go_wp2_with fail
 refine wp_region_noPanic ?_
 refine wp_region_held_drew (S := fun w' => w'.rangeAt g o (vb xd) ∧ w'.rangeAt g (o + 128) (vb xs) ∧ w'.rangeAt g (o + 256) (vb xw)) (by kernel_rfl) HRG.out (fun hHeld => ?_)
 refine dtk (i := 0) (v := .pointer (some ⟨g, o, none⟩)) (some 3) rfl rfl (by kernel_rfl) (by kernel_rfl) (fun wq hw => by go_simp) hHeld ?_
 simp only [Act.put, sQ1, sQ2, sQ3]
 refine dtk (i := 1) (v := .pointer (some ⟨g, o, none⟩)) (some 4) rfl rfl (by kernel_rfl) (by kernel_rfl) (fun wq hw => by go_simp) hHeld ?_
 simp only [Act.put, sQ1, sQ2, sQ3]
 refine dtk (i := 2) (v := .pointer (some ⟨g, o, none⟩)) (some 5) rfl rfl (by kernel_rfl) (by kernel_rfl) (fun wq hw => by go_simp) hHeld ?_
 simp only [Act.put, sQ1, sQ2, sQ3]
 refine drawn_take (i := 3) (v := .agg (vb xd).toArray) (some 6) rfl rfl (by kernel_rfl) (by kernel_rfl) (by kernel_rfl) (fun _ _ _ h => h) (yieldsIf_load_mid (by kernel_rfl) 134 (.tmp 5) (by kernel_rfl) g o (by kernel_rfl) (vb xd) _ (fun w h => h.1) Tryz.underlying134 rfl HSxd.out) hHeld ?_
 simp only [Act.put, sQ1, sQ2, sQ3]
 refine dtk (i := 4) (v := .pointer (some ⟨g, o, none⟩)) (some 7) rfl rfl (by kernel_rfl) (by kernel_rfl) (fun wq hw => by go_simp) hHeld ?_
 simp only [Act.put, sQ1, sQ2, sQ3]
 refine dtk (i := 5) (v := .pointer (some ⟨g, o, none⟩)) (some 8) rfl rfl (by kernel_rfl) (by kernel_rfl) (fun wq hw => by go_simp) hHeld ?_
 simp only [Act.put, sQ1, sQ2, sQ3]
 refine dtk (i := 6) (v := .pointer (some ⟨g, o + 128, none⟩)) (some 9) rfl rfl (by kernel_rfl) (by kernel_rfl) (fun wq hw => by go_simp) hHeld ?_
 simp only [Act.put, sQ1, sQ2, sQ3]
 refine drawn_take (i := 7) (v := .agg (vb xs).toArray) (some 10) rfl rfl (by kernel_rfl) (by kernel_rfl) (by kernel_rfl) (fun _ _ _ h => h) (yieldsIf_load_mid (by kernel_rfl) 134 (.tmp 9) (by kernel_rfl) g (o + 128) (by kernel_rfl) (vb xs) _ (fun w h => h.2.1) Tryz.underlying134 rfl HSxs.out) hHeld ?_
 simp only [Act.put, sQ1, sQ2, sQ3]
 refine dtk (i := 8) (v := .bool true) (some 11) rfl rfl (by kernel_rfl) (by kernel_rfl) (fun wq hw => by go_simp) hHeld ?_
 simp only [Act.put, sQ1, sQ2, sQ3]
 refine dtk (i := 9) (v := .bool true) (some 12) rfl rfl (by kernel_rfl) (by kernel_rfl) (fun wq hw => by go_simp) hHeld ?_
 simp only [Act.put, sQ1, sQ2, sQ3]
 refine dtk (i := 10) (v := .pointer (some ⟨g, o, none⟩)) (some 13) rfl rfl (by kernel_rfl) (by kernel_rfl) (fun wq hw => by go_simp) hHeld ?_
 simp only [Act.put, sQ1, sQ2, sQ3]
 refine dtk (i := 11) (v := .pointer (some ⟨g, o, none⟩)) (some 14) rfl rfl (by kernel_rfl) (by kernel_rfl) (fun wq hw => by go_simp) hHeld ?_
 simp only [Act.put, sQ1, sQ2, sQ3]
 refine dtk (i := 12) (v := .pointer (some ⟨g, o, none⟩)) (some 15) rfl rfl (by kernel_rfl) (by kernel_rfl) (fun wq hw => by go_simp) hHeld ?_
 simp only [Act.put, sQ1, sQ2, sQ3]
 refine drawn_take (i := 13) (v := .agg (vb xd).toArray) (some 16) rfl rfl (by kernel_rfl) (by kernel_rfl) (by kernel_rfl) (fun _ _ _ h => h) (yieldsIf_load_mid (by kernel_rfl) 134 (.tmp 15) (by kernel_rfl) g o (by kernel_rfl) (vb xd) _ (fun w h => h.1) Tryz.underlying134 rfl HSxd.out) hHeld ?_
 simp only [Act.put, sQ1, sQ2, sQ3]
 refine dtk (i := 14) (v := .pointer (some ⟨g, o, none⟩)) (some 17) rfl rfl (by kernel_rfl) (by kernel_rfl) (fun wq hw => by go_simp) hHeld ?_
 simp only [Act.put, sQ1, sQ2, sQ3]
 refine dtk (i := 15) (v := .pointer (some ⟨g, o, none⟩)) (some 18) rfl rfl (by kernel_rfl) (by kernel_rfl) (fun wq hw => by go_simp) hHeld ?_
 simp only [Act.put, sQ1, sQ2, sQ3]
 refine dtk (i := 16) (v := .pointer (some ⟨g, o + 256, none⟩)) (some 19) rfl rfl (by kernel_rfl) (by kernel_rfl) (fun wq hw => by go_simp) hHeld ?_
 simp only [Act.put, sQ1, sQ2, sQ3]
 refine drawn_take (i := 17) (v := .agg (vb xw).toArray) (some 20) rfl rfl (by kernel_rfl) (by kernel_rfl) (by kernel_rfl) (fun _ _ _ h => h) (yieldsIf_load_mid (by kernel_rfl) 134 (.tmp 19) (by kernel_rfl) g (o + 256) (by kernel_rfl) (vb xw) _ (fun w h => h.2.2) Tryz.underlying134 rfl HSxw.out) hHeld ?_
 simp only [Act.put, sQ1, sQ2, sQ3]
 refine dtk (i := 18) (v := .bool bw) (some 21) rfl rfl (by kernel_rfl) (by kernel_rfl) (fun wq hw => by go_simp) hHeld ?_
 simp only [Act.put, sQ1, sQ2, sQ3]
 refine dtk (i := 19) (v := .bool bw) (some 22) rfl rfl (by kernel_rfl) (by kernel_rfl) (fun wq hw => by go_simp) hHeld ?_
 simp only [Act.put, sQ1, sQ2, sQ3]
 refine dtk (i := 20) (v := .bool bw) (some 2) rfl rfl (by kernel_rfl) (by kernel_rfl) (fun wq hw => by go_simp) hHeld ?_
 simp only [Act.put, sQ1, sQ2, sQ3]
 refine wpAnyH_done (by kernel_rfl) ?_ _
 refine NoPanic.normal ?_
 clear hHeld hn1 hn2
 go_wp2
 go_ret
 exact ⟨rfl, (Below.refl _ _).drew⟩
end Go.Proofs.YtdppolelakbbiaaGreatDoor

namespace Go.Proofs.YtdppolelakbbiaaGreatDoor
open Go.RowKit Go.Maps
set_option linter.unusedVariables false
def Ext.bad (x : Ext) : Bool := !decide (x.dur = x.syn) && !decide (x.dur = x.wri)
def badAt (l : List Ext) (k : Nat) : List Nat := (List.range k).filter fun i => ((l[i]?).map Ext.bad).getD false
def spotsIn (M : List UInt8 → List Ext) (s : List UInt8) (k : Nat) : List (List UInt8 × Nat) := (badAt (M s) k).map fun i => (s, i)
def spotsOf (M : List UInt8 → List Ext) (ts : List (List UInt8)) : List (List UInt8 × Nat) := ts.flatMap fun s => spotsIn M s (M s).length
def spv (l : List (List UInt8 × Nat)) : List Value := l.flatMap fun p => [encStr p.1, .int .i64 (p.2 : Int)]
theorem spv_append (a b : List (List UInt8 × Nat)) : spv (a ++ b) = spv a ++ spv b := by simp [spv]
theorem badAt_succ (l : List Ext) (k : Nat) (x : Ext) (h : l[k]? = some x) : badAt l (k + 1) = badAt l k ++ (if x.bad then [k] else []) := by
 unfold badAt
 rw [List.range_succ, List.filter_append]
 congr 1
 simp only [List.filter_cons, List.filter_nil, h, Option.map_some, Option.getD_some]
theorem badAt_length (l : List Ext) (k : Nat) : (badAt l k).length ≤ k := by
 have := List.length_filter_le (fun i => ((l[i]?).map Ext.bad).getD false) (List.range k)
 rw [List.length_range] at this
 exact this
theorem spotsIn_length (M : List UInt8 → List Ext) (s : List UInt8) (k : Nat) : (spotsIn M s k).length ≤ k := by
 unfold spotsIn
 rw [List.length_map]
 exact badAt_length _ _
theorem spotsIn_zero (M : List UInt8 → List Ext) (s : List UInt8) : spotsIn M s 0 = [] := rfl
theorem spotsOf_succ (M : List UInt8 → List Ext) (ts : List (List UInt8)) (j : Nat) (s : List UInt8) (h : ts[j]? = some s) : spotsOf M (ts.take (j + 1)) = spotsOf M (ts.take j) ++ spotsIn M s (M s).length := by
 unfold spotsOf
 rw [List.take_add_one, h]
 simp
theorem spotsOf_length (M : List UInt8 → List Ext) (ts : List (List UInt8)) : (spotsOf M ts).length ≤ (ts.map fun s => (M s).length).sum := by
 induction ts with
 | nil => exact Nat.le_refl _
 | cons s t ih =>
  have e : spotsOf M (s :: t) = spotsIn M s (M s).length ++ spotsOf M t := rfl
  have h := spotsIn_length M s (M s).length
  rw [e, List.length_append, List.map_cons, List.sum_cons]
  omega
theorem spInfo : ∃ i0 z, Tryz.prog.info? 105 = some i0 ∧ i0.zero = some z ∧ i0.size = 2 ∧ i0.bytes = 24 ∧ z.cells.size = 2 := by
 have h : (Tryz.prog.info? 105).map (fun i => (i.zero, i.size, i.bytes)) = some (some (.agg #[.string ⟨#[]⟩, .int .i64 0]), 2, 24) := by kernel_rfl
 cases hi : Tryz.prog.info? 105 with
 | none => rw [hi] at h; cases h
 | some i0 =>
  rw [hi] at h
  simp only [Option.map_some, Option.some.injEq, Prod.mk.injEq] at h
  exact ⟨i0, _, rfl, h.1, h.2.1, h.2.2, rfl⟩
theorem isDamaged_any {w : World} {d N : Nat} {F : Nat → Prop} {M : List UInt8 → List Ext} {free fuse : Int} {bm : Nat} {D : DataW Unit} {G C : List UInt8 → Nat} (h : DiskIs w d F N M free fuse bm D G C) (s : List UInt8) (i : Nat) (x : Ext) (hx : (M s)[i]? = some x) (o : Nat) (ho : i * 385 = o) :
  Calls Tryz.prog 114 #[.pointer (some ⟨G s, o, none⟩)] w fun e w' => e = .returned (.bool x.bad) ∧ Below w.heap.size w w' := by
 obtain ⟨p1, p2, p3, p4, p5, p6⟩ := h.parts s i x hx o ho
 by_cases he : x.dur = x.syn
 ·
  have hb : x.bad = false := by unfold Ext.bad; rw [decide_eq_true he]; rfl
  rw [hb]
  exact isDamaged_same w (G s) o _ _ _ p6.1.1 p6.2.1.1 p6.2.2.1 p1 p2 p3 he
 ·
  have hb : x.bad = !decide (x.dur = x.wri) := by unfold Ext.bad; rw [decide_eq_false he]; rfl
  rw [hb]
  exact isDamaged_other w (G s) o _ _ _ p6.1.1 p6.2.1.1 p6.2.2.1 p1 p2 p3 he
def DamPost (w : World) (M : List UInt8 → List Ext) (v : Value) (w' : World) : Prop := ∃ ts, Names M ts ∧ w'.ownsRow w.heap.size 105 2 v (spotsOf M ts).length (spv (spotsOf M ts))
set_option maxHeartbeats 4000000 in
set_option maxRecDepth 100000 in
theorem damaged_disk (w : World) (d : Nat) (F : Nat → Prop) (N : Nat) (M : List UInt8 → List Ext) (free fuse : Int) (h : DiskOf w d F N M free fuse) (hN : N ≤ 1000000) (hT : ∀ ts : List (List UInt8), ts.Nodup → (ts.map fun s => (M s).length).sum ≤ 1000000) :
  Calls Tryz.prog 70 #[.pointer (some ⟨d, 0, none⟩)] w fun e w' => ∃ v, e = .returned v ∧ DamPost w M v w' ∧ Below w.heap.size w w' := by
 obtain ⟨bm, D, G, C, hI⟩ := h.is
 obtain ⟨i0, z, hi, hz, hzs, hby, hzc⟩ := spInfo
 go_enter Tryz.func70, Tryz.ntmps70
 go_wp2_with fail
 refine (list_disk _ d F N M free fuse h hN).mono ?_
 rintro e w1 ⟨v, ts, rfl, hnm, hrow, b1⟩
 obtain ⟨sa, sc, hsv⟩ : ∃ sa sc, v = .slice sa ts.length sc := by
  rcases hrow.2 with ⟨h1, h2⟩ | ⟨g, cap, cur, h1, _⟩
  ·
   exact ⟨none, 0, by rw [h1, h2]⟩
  ·
   exact ⟨_, _, h1⟩
 subst hsv
 have hTs := hT ts hnm.1
 have HI1w := hidn (hI.below b1)
 obtain ⟨L, hL⟩ : ∃ L, L = ts.length := ⟨_, rfl⟩
 have hLm : L ≤ maxLen := by
  rcases hrow.2 with ⟨h1, h2⟩ | ⟨g, cap, cur, h1, _, _, h3, h4, _⟩
  ·
   omega
  ·
   omega
 have HROW := hidn hrow
 rw [← hL]
 rw [← hL] at HROW
 have HL := hidn hL
 unfold maxLen at hLm
 clear hI hT hrow hL
 go_wp2_with fail
 go_loopw [3, 10] (fun sv kv wr => ∃ (j : Nat) (v : Value), j ≤ L ∧ sv = v ∧ kv = .int .i64 (j : Int) ∧ wr.ownsRow w1.heap.size 105 2 v (spotsOf M (ts.take j)).length (spv (spotsOf M (ts.take j))) ∧ Below w1.heap.size w1 wr) (fun _ kv _ => L - (intOf kv).toNat)
 case atStart => exact ⟨0, _, Nat.zero_le _, rfl, rfl, World.ownsRow_nil _ _ _ _, Below.refl _ _⟩
 case round =>
  obtain ⟨j, v, hj, rfl, rfl, hown, hb1⟩ := hrel
  by_cases hlt : j < L
  ·
   have hlt2 : (j : Int) < (L : Int) := by omega
   obtain ⟨g, rfl⟩ : ∃ g, sa = some ⟨g, 0, none⟩ := by
    rcases HROW.out.2 with ⟨h1, h2⟩ | ⟨g, cap, cur, h1, _⟩
    ·
     omega
    ·
     cases h1; exact ⟨g, rfl⟩
   obtain ⟨s, hs⟩ : ∃ s, ts[j]? = some s := ⟨_, lQ6 (by rw [← HL.out]; exact hlt)⟩
   have hsm := hnm.2.2.2 s (lQ7 hs)
   have hsne := (hnm.2.2.1 s).1 (lQ7 hs)
   obtain ⟨sb, rfl⟩ : ∃ sb : ByteArray, s = sb.data.toList := ⟨⟨s.toArray⟩, rfl⟩
   have cN : wr.cell? ⟨g, j, none⟩ = some (.string sb) := by
    have := (own_below HROW.out hb1).cells (g := g) rfl j (.string sb) (by rw [List.getElem?_map, hs]; simp [encStr])
    simpa [add_none] using this
   have hI := HI1w.out.below hb1
   have hlk := hI.look sb (by rw [Array.length_toList] at hsm; exact hsm) hsne
   have c0 := hI.c0
   have HLK := hidn (fun (wx : World) (hx : Below w1.heap.size w1 wx) => (HI1w.out.below hx).look sb (by rw [Array.length_toList] at hsm; exact hsm) hsne)
   obtain ⟨n, hn⟩ : ∃ n, n = (M sb.data.toList).length := ⟨_, rfl⟩
   have hnm2 := hI.len sb.data.toList
   rw [← hn] at hlk HLK hnm2
   have HN := hidn hn
   have hnx : Hid (spotsOf M (ts.take (j + 1)) = spotsOf M (ts.take j) ++ spotsIn M sb.data.toList n) := hidn (by rw [hn]; exact spotsOf_succ M ts j _ hs)
   have hlen1 : Hid ((spotsOf M (ts.take j)).length + n ≤ 1000000) := hidn (by
    have h1 := spotsOf_length M (ts.take j)
    have h2 : (ts.map fun s => (M s).length).sum = ((ts.take j).map fun s => (M s).length).sum + ((ts.drop j).map fun s => (M s).length).sum := by
     rw [← List.sum_append, ← List.map_append, List.take_append_drop]
    have h3 : ts.drop j = sb.data.toList :: ts.drop (j + 1) := by
     obtain ⟨hj', he⟩ := lQ4.1 hs
     rw [← he]
     exact List.drop_eq_getElem_cons hj'
    rw [h3, List.map_cons, List.sum_cons] at h2
    omega)
   clear hn hI hs hsm hsne
   go_wp2_with fail
   generalize wr = wo at *
   generalize u3 = sv0 at *
   clear hlk c0 cN
   unfold maxLen at hnm2
   go_loopw [3, 21] (fun sv kv wr => ∃ (k : Nat) (v : Value), k ≤ n ∧ sv = v ∧ kv = .int .i64 (k : Int) ∧ wr.ownsRow w1.heap.size 105 2 v (spotsOf M (ts.take j) ++ spotsIn M sb.data.toList k).length (spv (spotsOf M (ts.take j) ++ spotsIn M sb.data.toList k)) ∧ Below w1.heap.size w1 wr) (fun _ kv _ => n - (intOf kv).toNat)
   case atStart => exact ⟨0, _, Nat.zero_le _, rfl, rfl, by rw [spotsIn_zero, List.append_nil]; exact hown, hb1⟩
   case round =>
    obtain ⟨k, v, hk, rfl, rfl, hown2, hb3⟩ := hrel
    by_cases hkl : k < n
    ·
     have hkl2 : (k : Int) < (n : Int) := by omega
     obtain ⟨x, hx⟩ : ∃ x, (M sb.data.toList)[k]? = some x := ⟨_, lQ6 (by rw [← HN.out]; exact hkl)⟩
     have hlk := HLK.out wr hb3
     have hI2 := HI1w.out.below hb3
     have c0 := hI2.c0
     have HD := hidn (isDamaged_any hI2 sb.data.toList k x hx (k * 385) rfl)
     have hnext : Hid (spotsIn M sb.data.toList (k + 1) = spotsIn M sb.data.toList k ++ (if x.bad then [(sb.data.toList, k)] else [])) := hidn (by
      unfold spotsIn
      rw [badAt_succ _ _ _ hx, List.map_append]
      congr 1
      cases x.bad <;> rfl)
     have hlen2 : Hid ((spotsOf M (ts.take j) ++ spotsIn M sb.data.toList k).length + 1 ≤ 1000000) := hidn (by
      have h1 := hlen1.out
      have h2 := spotsIn_length M sb.data.toList k
      rw [List.length_append]
      omega)
     have HX := hidn hx
     clear hI2 hx
     go_wp2_with fail
     refine HD.out.mono ?_
     rintro e w3 ⟨rfl, b3⟩
     have B1 := hb3.trans (b3.mono hb3.size)
     have own3 := own_below hown2 b3
     have hsz : w1.heap.size ≤ w3.heap.size := B1.size
     generalize x.bad = xb at *
     clear hown2 hlk c0
     cases xb with
     | false =>
      have HO : Hid (w3.ownsRow w1.heap.size 105 2 u3 (spotsOf M (ts.take j) ++ spotsIn M sb.data.toList (k + 1)).length (spv (spotsOf M (ts.take j) ++ spotsIn M sb.data.toList (k + 1)))) := hidn (by
       rw [hnext.out]
       simp only [Bool.false_eq_true, if_false, List.append_nil]
       exact own3)
      clear own3
      go_wp2_with fail
      exact ⟨⟨k + 1, _, by omega, rfl, by go_num, HO.out, B1⟩, by simp [intOf]; omega⟩
     | true =>
      obtain ⟨sx, sy, hsv⟩ : ∃ sx sy, u3 = .slice sx (spotsOf M (ts.take j) ++ spotsIn M sb.data.toList k).length sy := by
       rcases own3.2 with ⟨h1, h2⟩ | ⟨g, cap, cur, h1, _⟩
       ·
        exact ⟨none, 0, by rw [h1, h2]⟩
       ·
        exact ⟨_, _, h1⟩
      have hnext2 : Hid (spv (spotsOf M (ts.take j) ++ spotsIn M sb.data.toList (k + 1)) = spv (spotsOf M (ts.take j) ++ spotsIn M sb.data.toList k) ++ [.string sb, .int .i64 (k : Int)]) := hidn (by
       rw [hnext.out]
       simp only [if_true]
       rw [← List.append_assoc, spv_append]
       simp [spv, encStr])
      have hnext3 : Hid ((spotsOf M (ts.take j) ++ spotsIn M sb.data.toList (k + 1)).length = (spotsOf M (ts.take j) ++ spotsIn M sb.data.toList k).length + 1) := hidn (by
       rw [hnext.out]
       simp only [if_true]
       rw [← List.append_assoc, List.length_append]
       rfl)
      generalize hq : spotsOf M (ts.take j) ++ spotsIn M sb.data.toList k = Q0 at *
      have HQ := hidn hq
      clear hq
      have hl2 := hlen2.out
      have own4 := own_below own3 ((Below.refl _ w3).alloc (Nat.le_refl _) (.cells #[.string sb, .int .i64 (k : Int)] 105))
      clear own3
      subst hsv
      go_wp2_with (at_builtin; refine wpList_append_own _ rfl _ _ 103 rfl w1.heap.size 105 i0 z 2 24 Tryz.underlying103 hi hz hzs hby hzc (by decide) _ Q0.length (spv Q0) rfl own4 ⟨w3.heap.size, 0, none⟩ 1 1 [.string sb, .int .i64 (k : Int)] rfl rfl ?c1 ?c2 ?c3 ?c4 ?c5 ?_)
      case c1 =>
       intro i u hi
       match i, hi with
       | 0, hi => simp at hi; subst hi; simp [Addr.add]
       | 1, hi => simp at hi; subst hi; simp [Addr.add]
      case c2 =>
       intro u hu
       simp at hu
       rcases hu with rfl | rfl <;> rfl
      case c3 => unfold maxLen; omega
      case c4 => omega
      case c5 => simp; omega
      intro v' w4 own5 hgrow3 _
      have hnew : Below w3.heap.size w3 (w3.alloc (.cells #[.string sb, .int .i64 (k : Int)] 105)) := (Below.refl _ _).alloc (Nat.le_refl _) _
      have HO : Hid (w4.ownsRow w1.heap.size 105 2 v' (spotsOf M (ts.take j) ++ spotsIn M sb.data.toList (k + 1)).length (spv (spotsOf M (ts.take j) ++ spotsIn M sb.data.toList (k + 1)))) := hidn (by rw [hnext2.out, hnext3.out]; exact own5)
      have B4 : Below w1.heap.size w1 w4 := (B1.alloc hsz _).grown hgrow3 (by simp; omega) (fun k hk => (own4.lt k hk).1)
      clear own4 own5 hgrow3
      go_wp2_with fail
      exact ⟨⟨k + 1, _, by omega, rfl, by go_num, HO.out, B4⟩, by simp [intOf]; omega⟩
    ·
     have hkl2 : ¬ (k : Int) < (n : Int) := by omega
     obtain rfl : k = n := by omega
     rw [← hnx.out] at hown2
     go_wp2_with fail
     exact ⟨⟨j + 1, _, by omega, rfl, by go_num, hown2, hb3⟩, by simp [intOf]; omega⟩
  ·
   have hlt2 : ¬ (j : Int) < (L : Int) := by omega
   obtain rfl : j = L := by omega
   have htk : ts.take j = ts := List.take_of_length_le (by rw [HL.out]; exact Nat.le_refl _)
   rw [htk] at hown
   go_wp2_with fail
   go_ret
   exact ⟨_, rfl, ⟨ts, hnm, ownsRow_base_a hown b1.size⟩, b1.trans (hb1.mono b1.size)⟩
end Go.Proofs.YtdppolelakbbiaaGreatDoor

namespace Go.Proofs.YtdppolelakbbiaaGreatDoor
open Go.RowKit Go.Maps
set_option linter.unusedVariables false
def spotsF (f : Yf) (k : Nat) : List (List UInt8 × Nat) := (badAt (f.l.map Yc.x) k).map fun i => (f.name.data.toList, i)
def spotsY (R : List Yf) : List (List UInt8 × Nat) := R.flatMap fun f => spotsF f f.l.length
theorem spotsY_take (R : List Yf) (k : Nat) (f : Yf) (h : R[k]? = some f) : spotsY (R.take (k + 1)) = spotsY (R.take k) ++ spotsF f f.l.length := by
 have hk := lQ4.1 h
 unfold spotsY
 rw [List.take_succ_eq_append_getElem hk.1, List.flatMap_append, hk.2]
 simp
theorem spotsF_length (f : Yf) (k : Nat) : (spotsF f k).length ≤ k := by
 unfold spotsF
 rw [List.length_map]
 exact badAt_length _ _
theorem spotsY_length (R : List Yf) : (spotsY R).length ≤ sumL R := by
 unfold spotsY sumL
 induction R with
 | nil => simp
 | cons f r ih =>
  rw [List.flatMap_cons, List.length_append, List.map_cons, List.sum_cons]
  have := spotsF_length f f.l.length
  omega
theorem tySp : (105 : Nat) ≠ 143 := by decide
theorem Im.bs {w : World} {q : Nat × Nat} {zs : List Nat} (h : Im w q zs) (hl : zs.length = 128) (hz : ∀ x ∈ zs, x < 256) : Bs w (some ⟨q.1, 0, none⟩) 128 zs := by
 refine ⟨hl, by unfold maxLen; omega, hz, (fun e => by cases e), fun x hx j hj => ?_⟩
 cases hx
 have h1 := h.cells (g := q.1) rfl j (.int .u8 ((zs.getD j 0 : Nat) : Int)) (by
  unfold vb
  rw [List.getElem?_map, lQ6 (by omega), List.getD_eq_getElem?_getD, lQ6 (by omega)]
  rfl)
 exact h1
theorem strB_eq {a b : List Nat} (ha : ∀ x ∈ a, x < 256) (hb : ∀ x ∈ b, x < 256) : ((strB a).toList == (strB b).toList) = decide (a = b) := by
 rw [Bool.eq_iff_iff, beq_iff_eq, strB_inj ha hb]
 simp
set_option maxRecDepth 100000 in
set_option maxHeartbeats 4000000 in
theorem damagedY_any (w : World) (y : Nat) (F : Nat → Prop) (fa : Option Addr) (fc : Nat) (R : List Yf) (room fuse : Int) (h : RyOf w y F fa fc R room fuse) (hF : ∀ k, F k → k < w.heap.size) (hR : R.length ≤ 1000000) (hsm : sumL R ≤ 100000) :
  Calls Tryz.prog 71 #[.pointer (some ⟨y, 0, none⟩)] w fun e w' => ∃ v, e = .returned v ∧ w'.ownsRow w.heap.size 105 2 v (spotsY R).length (spv (spotsY R)) ∧ Below w.heap.size w w' := by
 have H := hidn h
 have HF := hidn hF
 have c1 : w.cell? ⟨y, 1, none⟩ = some (.slice fa R.length fc) := by rw [cell_of_row _ _ _ _ _ _ h.disk]; rfl
 obtain ⟨N, hN⟩ : ∃ N, N = R.length := ⟨_, rfl⟩
 rw [← hN] at c1 hR
 have HNN := hidn hN
 have HSM := hidn hsm
 have HFL : Hid (∀ (k : Nat) f, R[k]? = some f → f.l.length ≤ 100000 ∧ (spotsY (R.take k)).length + f.l.length ≤ 100000) := hidn (fun k f hk => by
  have h1 := sumL_take R k f hk
  have h2 := sumL_le R (k + 1)
  have h3 := spotsY_length (R.take k)
  omega)
 obtain ⟨i0, z0, hi, hz0, hz1, hz2, hz3⟩ := spInfo
 clear h hF hN hsm
 go_enter Tryz.func71, Tryz.ntmps71
 go_wp2_with fail
 clear c1
 go_loopw [3, 13] (fun ov iv wr => ∃ j : Nat, j ≤ N ∧ iv = .int .i64 (j : Int) ∧ Hid (wr.ownsRow w.heap.size 105 2 ov (spotsY (R.take j)).length (spv (spotsY (R.take j)))) ∧ Hid (Below w.heap.size w wr)) (fun _ iv _ => N - (intOf iv).toNat)
 case atStart => exact ⟨0, Nat.zero_le _, rfl, hidn (World.ownsRow_nil _ _ _ _), hidn (Below.refl _ _)⟩
 case round =>
  obtain ⟨j, hj, rfl, HO, HB⟩ := hrel
  obtain ⟨wo, hwo⟩ : ∃ wo, wo = wr := ⟨_, rfl⟩
  subst hwo
  by_cases hlt : j < N
  ·
   have hlt2 : (j : Int) < (N : Int) := by omega
   obtain ⟨f, hf⟩ : ∃ f, R[j]? = some f := ⟨_, lQ6 (by rw [← HNN.out]; exact hlt)⟩
   have HFK := hidn hf
   obtain ⟨g, hfa, hFg, hc0, hc1⟩ := (H.out.below HF.out HB.out).at hf
   subst hfa
   unfold Yf.row at hc1
   obtain ⟨nm, hnm⟩ : ∃ nm, nm = f.name := ⟨_, rfl⟩
   obtain ⟨fg, hfg⟩ : ∃ fg, fg = f.g := ⟨_, rfl⟩
   obtain ⟨fl, hfl⟩ : ∃ fl, fl = f.l.length := ⟨_, rfl⟩
   obtain ⟨fcc, hfcc⟩ : ∃ fcc, fcc = f.c := ⟨_, rfl⟩
   rw [← hnm] at hc0
   rw [← hfg, ← hfl, ← hfcc] at hc1
   have hflb : fl ≤ 100000 := by rw [hfl]; exact (HFL.out j f hf).1
   have HFE := hidn (And.intro hnm (And.intro hfg hfl))
   obtain ⟨w1, hw1⟩ : ∃ w1, w1 = wo.alloc (.cells #[.string nm, .slice (some ⟨fg, 0, none⟩) fl fcc] 143) := ⟨_, rfl⟩
   obtain ⟨b5, hb5⟩ : ∃ b5, b5 = wo.heap.size := ⟨_, rfl⟩
   have HB5 : Hid (w1.heap[b5]? = some (.cells #[.string nm, .slice (some ⟨fg, 0, none⟩) fl fcc] 143 (0, 0))) := hidn (by rw [hw1, hb5]; exact heap_alloc_new _ _)
   have hb1 : Below wo.heap.size wo w1 := by rw [hw1]; exact (Below.refl _ _).alloc (Nat.le_refl _) _
   have HO1 := hidn (own_other HO.out (w' := w1) (fun b hb => hb1.block b (own_lt HO.out b hb)))
   have HB1 := hidn (HB.out.trans (hb1.mono HB.out.size))
   clear hf hnm hfg hfl hfcc hFg HO HB hb1
   go_wp2_with fail
   rw [← hw1, ← hb5]
   clear hc0 hc1 hw1 hb5
   go_loopw [3, 20] (fun ov iv wr => ∃ i : Nat, i ≤ fl ∧ iv = .int .i64 (i : Int) ∧ Hid (wr.ownsRow w.heap.size 105 2 ov (spotsY (R.take j) ++ spotsF f i).length (spv (spotsY (R.take j) ++ spotsF f i))) ∧ Hid (Below w.heap.size w wr) ∧ Hid (wr.heap[b5]? = some (.cells #[.string nm, .slice (some ⟨fg, 0, none⟩) fl fcc] 143 (0, 0)))) (fun _ iv _ => fl - (intOf iv).toNat)
   case atStart => exact ⟨0, Nat.zero_le _, rfl, hidn (by rw [show spotsF f 0 = [] from rfl, List.append_nil]; exact HO1.out), HB1, HB5⟩
   case round =>
    clear HO1 HB1 HB5
    obtain ⟨i, hi', rfl, HO, HB, HB5⟩ := hrel
    obtain ⟨wi, hwi⟩ : ∃ wi, wi = wr := ⟨_, rfl⟩
    subst hwi
    by_cases hlti : i < fl
    ·
     have hlti2 : (i : Int) < (fl : Int) := by omega
     have hR2 := H.out.below HF.out HB.out
     have hm := lQ7 HFK.out
     obtain ⟨c, hc⟩ : ∃ c, f.l[i]? = some c := ⟨_, lQ6 (by rw [← HFE.out.2.2]; exact hlti)⟩
     have hcm := lQ7 hc
     obtain ⟨d0, d1, d2, d3, d4⟩ := hR2.ext hm hc
     obtain ⟨x0, x1, x2, x3⟩ := hR2.ims _ hm c hcm
     have hok := (hR2.ok _ hm).2.2 c hcm
     rw [← HFE.out.2.1] at d0 d1 d2 d3 d4
     obtain ⟨⟨p0, r0⟩, hq0⟩ : ∃ q, q = c.q0 := ⟨_, rfl⟩
     obtain ⟨⟨p1, r1⟩, hq1⟩ : ∃ q, q = c.q1 := ⟨_, rfl⟩
     obtain ⟨⟨p2, r2⟩, hq2⟩ : ∃ q, q = c.q2 := ⟨_, rfl⟩
     obtain ⟨⟨p3, r3⟩, hq3⟩ : ∃ q, q = c.q3 := ⟨_, rfl⟩
     obtain ⟨wt, hwt⟩ : ∃ wt, wt = c.x.waits := ⟨_, rfl⟩
     rw [← hq0] at d0
     rw [← hq1] at d1 x1
     rw [← hq2] at d2 x2
     rw [← hq3] at d3 x3
     rw [← hwt] at d4
     obtain ⟨W1, hW1⟩ : ∃ W1, W1 = wi.alloc (.cells #[.slice (some ⟨p0, 0, none⟩) 128 r0, .slice (some ⟨p1, 0, none⟩) 128 r1, .slice (some ⟨p2, 0, none⟩) 128 r2, .slice (some ⟨p3, 0, none⟩) 128 r3, .bool wt] 140) := ⟨_, rfl⟩
     have hBW : Below wi.heap.size wi W1 := by rw [hW1]; exact (Below.refl _ _).alloc (Nat.le_refl _) _
     have y1 := (own_other x1 (w' := W1) (fun b hb => hBW.block b (own_lt x1 b hb)) : Im W1 (p1, r1) c.x.dur)
     have y2 := (own_other x2 (w' := W1) (fun b hb => hBW.block b (own_lt x2 b hb)) : Im W1 (p2, r2) c.x.syn)
     have y3 := (own_other x3 (w' := W1) (fun b hb => hBW.block b (own_lt x3 b hb)) : Im W1 (p3, r3) c.x.wri)
     have v1 := (Im.bs y1 hok.1.1 hok.1.2).str (cap := r1)
     have v2 := (Im.bs y2 hok.2.1.1 hok.2.1.2).str (cap := r2)
     have v3 := (Im.bs y3 hok.2.2.1 hok.2.2.2).str (cap := r3)
     have E1 := strB_eq hok.1.2 hok.2.1.2
     have E2 := strB_eq hok.1.2 hok.2.2.2
     obtain ⟨sd, hsd⟩ : ∃ sd, sd = strB c.x.dur := ⟨_, rfl⟩
     obtain ⟨ss, hss⟩ : ∃ ss, ss = strB c.x.syn := ⟨_, rfl⟩
     obtain ⟨sw, hsw⟩ : ∃ sw, sw = strB c.x.wri := ⟨_, rfl⟩
     rw [← hsd] at v1 E1 E2
     rw [← hss] at v2 E1
     rw [← hsw] at v3 E2
     simp only at v1 v2 v3
     have hHO := own_other HO.out (w' := W1) (fun b hb => hBW.block b (own_lt HO.out b hb))
     have HBW := hidn (HB.out.trans (hBW.mono HB.out.size))
     have HB5W := hidn ((hBW.block b5 (lQ3.1 HB5.out).1).trans HB5.out)
     have cn5 : W1.cell? ⟨b5, 0, none⟩ = some (.string nm) := by rw [cell_of_row _ _ _ _ _ _ HB5W.out]; rfl
     have hs1 : W1.heap.size = wi.heap.size + 1 := by rw [hW1, World.size_alloc]
     have HBad : Hid (spotsF f (i + 1) = spotsF f i ++ (if c.x.bad then [(f.name.data.toList, i)] else [])) := hidn (by
      unfold spotsF
      rw [badAt_succ _ i c.x (by rw [List.getElem?_map, hc]; rfl), List.map_append]
      split <;> rfl)
     have hLB : (spotsY (R.take j) ++ spotsF f i).length ≤ 100000 := by
      have h1 := (HFL.out j f HFK.out).2
      have h2 := spotsF_length f i
      rw [List.length_append]
      have h3 := HFE.out.2.2
      omega
     have HLB := hidn hLB
     by_cases hbad : c.x.bad = true
     ·
      have hb2 := hbad
      unfold Ext.bad at hb2
      rw [Bool.and_eq_true] at hb2
      have n1 : decide (c.x.dur = c.x.syn) = false := by simpa using hb2.1
      have n2 : decide (c.x.dur = c.x.wri) = false := by simpa using hb2.2
      rw [n1] at E1
      rw [n2] at E2
      have E1' : (sd.toList != ss.toList) = true := by unfold bne; rw [E1]; rfl
      have E2' : (sd.toList != sw.toList) = true := by unfold bne; rw [E2]; rfl
      obtain ⟨va, vc, e9⟩ := own_slY HO.out
      have hB2 : Below W1.heap.size W1 (W1.alloc (.cells #[.string nm, .int .i64 (i : Int)] 105)) := (Below.refl _ _).alloc (Nat.le_refl _) _
      have ho2 := own_other hHO (w' := W1.alloc (.cells #[.string nm, .int .i64 (i : Int)] 105)) (fun b hb => hB2.block b (own_lt hHO b hb))
      obtain ⟨L, hL⟩ : ∃ L, L = (spotsY (R.take j) ++ spotsF f i).length := ⟨_, rfl⟩
      rw [← hL] at ho2 e9 hLB
      obtain ⟨g4, c4, w4, hrun, hown4, hgr4, hpl4⟩ := appN (P := Tryz.prog) (W1.alloc (.cells #[.string nm, .int .i64 (i : Int)] 105)) 103 103 105 i0 z0 2 24 Tryz.underlying103 hi hz0 hz1 hz2 hz3 (by decide) _ L _ w.heap.size ho2 (by rw [World.size_alloc, hs1]; have := HB.out.size; omega) ⟨W1.heap.size, 0, none⟩ 1 1 (by omega) [.string nm, .int .i64 (i : Int)] rfl (fun jj u hu => by
       rw [add_none, Nat.zero_add, cell_of_row _ _ _ _ _ _ (heap_alloc_new W1 (.cells #[.string nm, .int .i64 (i : Int)] 105))]
       simpa using hu) (fun u hu => by
       simp only [List.mem_cons, List.not_mem_nil, or_false] at hu
       rcases hu with rfl | rfl <;> rfl) (by unfold maxLen; omega) (by omega)
      have hB4 : Below w.heap.size w w4 := (HBW.out.trans (hB2.mono HBW.out.size)).grown hgr4 (by rw [World.size_alloc, hs1]; have := HB.out.size; omega) (fun b hb => (HO.out.lt b hb).1)
      have h5w4 : w4.heap[b5]? = some (.cells #[.string nm, .slice (some ⟨fg, 0, none⟩) fl fcc] 143 (0, 0)) := by
       have lb := (lQ3.1 HB5W.out).1
       rw [hgr4.block b5 (by rw [World.size_alloc]; omega) (fun e => own_ne hHO (g := b5) e.symm HB5W.out tySp rfl)]
       exact (hB2.block b5 lb).trans HB5W.out
      have HN4 : Hid (w4.ownsRow w.heap.size 105 2 (.slice (some ⟨g4, 0, none⟩) (L + 1) c4) (spotsY (R.take j) ++ spotsF f (i + 1)).length (spv (spotsY (R.take j) ++ spotsF f (i + 1)))) := hidn (by
       rw [HBad.out, hbad, if_pos rfl, ← List.append_assoc, spv_append, List.length_append, List.length_singleton, ← hL]
       have e : spv [(f.name.data.toList, i)] = [.string nm, .int .i64 (i : Int)] := by rw [HFE.out.1]; simp [spv, encStr]
       rw [e]
       exact hown4)
      rw [hs1, hW1] at hrun
      have HRUN := hidn hrun
      have HX := hidn (And.intro hB4 h5w4)
      subst e9
      rw [hW1] at v1 v2 v3 cn5
      clear hrun hown4 hgr4 hpl4 hB4 hB2 ho2 h5w4 hL hbad hb2 n1 n2 HO HB hs1 hW1 hBW hHO hR2 hm hc hcm x0 x1 x2 x3 y1 y2 y3 hok hsd hss hsw hq0 hq1 hq2 hq3 hwt
      go_wp2_with (at_builtin; refine wpList_app_run2 rfl _ _ 103 103 rfl rfl (.slice va L vc) _ _ rfl rfl HRUN.out ?_; clear HRUN)
      go_roundw
      case rel => exact ⟨i + 1, hlti, by simp, HN4, hidn HX.out.1, hidn HX.out.2⟩
      case measure => simp [intOf]; omega
     ·
      have hbad' : c.x.bad = false := by simpa using hbad
      have HN4 : Hid (W1.ownsRow w.heap.size 105 2 u3 (spotsY (R.take j) ++ spotsF f (i + 1)).length (spv (spotsY (R.take j) ++ spotsF f (i + 1)))) := hidn (by
       rw [HBad.out, hbad']
       simp only [Bool.false_eq_true, if_false, List.append_nil]
       exact hHO)
      rw [hW1] at v1 v2 v3 HN4 HBW HB5W
      by_cases hn1 : c.x.dur = c.x.syn
      ·
       rw [decide_eq_true hn1] at E1
       have E1' : (sd.toList != ss.toList) = false := by unfold bne; rw [E1]; rfl
       clear HO HB hs1 hW1 hBW hHO hR2 hm hc hcm x0 x1 x2 x3 y1 y2 y3 hok hsd hss hsw hq0 hq1 hq2 hq3 hwt E2 hbad hbad' hn1 cn5
       go_wp2
       go_roundw
       case rel => exact ⟨i + 1, hlti, by simp, HN4, HBW, HB5W⟩
       case measure => simp [intOf]; omega
      ·
       have hn2 : c.x.dur = c.x.wri := by
        unfold Ext.bad at hbad'
        rw [decide_eq_false hn1] at hbad'
        simpa using hbad'
       rw [decide_eq_false hn1] at E1
       rw [decide_eq_true hn2] at E2
       have E1' : (sd.toList != ss.toList) = true := by unfold bne; rw [E1]; rfl
       have E2' : (sd.toList != sw.toList) = false := by unfold bne; rw [E2]; rfl
       clear HO HB hs1 hW1 hBW hHO hR2 hm hc hcm x0 x1 x2 x3 y1 y2 y3 hok hsd hss hsw hq0 hq1 hq2 hq3 hwt hbad hbad' hn1 hn2 cn5
       go_wp2
       go_roundw
       case rel => exact ⟨i + 1, hlti, by simp, HN4, HBW, HB5W⟩
       case measure => simp [intOf]; omega
    ·
     have hlti2 : ¬ (i : Int) < (fl : Int) := by omega
     have hif : i = fl := by omega
     have HN : Hid (wi.ownsRow w.heap.size 105 2 u3 (spotsY (R.take (j + 1))).length (spv (spotsY (R.take (j + 1))))) := hidn (by
      rw [spotsY_take R j f HFK.out, ← HFE.out.2.2, ← hif]
      exact HO.out)
     clear hif HO
     go_wp2
     go_roundw
     case rel => exact ⟨j + 1, hlt, by simp, HN, HB⟩
     case measure => simp [intOf]; omega
  ·
   have hlt2 : ¬ (j : Int) < (N : Int) := by omega
   have hjN : j = N := by omega
   have hO := HO.out
   rw [hjN, HNN.out, List.take_length] at hO
   have HO2 := hidn hO
   clear hO hjN
   go_wp2
   go_ret
   exact ⟨_, rfl, HO2.out, HB.out⟩
end Go.Proofs.YtdppolelakbbiaaGreatDoor
