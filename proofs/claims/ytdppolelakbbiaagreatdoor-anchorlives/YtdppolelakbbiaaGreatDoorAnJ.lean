/- The document's Decode of an anchor. -/
import Derived.Test.YtdppolelakbbiaaGreatDoorMw
namespace Go.Proofs.YtdppolelakbbiaaGreatDoor
open Go.RowKit Go.Maps
set_option linter.unusedVariables false
set_option maxHeartbeats 1000000 in
theorem int_0 (w : World) (b off cap off2 cap2 : Nat) (zs : List Nat) (hl : zs.length = 8) (hz : ∀ x ∈ zs, x < 256) (hcap : 80 ≤ cap) (ho : off + 8 = off2) (hc2 : cap - 8 = cap2) (hc : ∀ j, j < 8 → w.cell? ⟨b, off + j, none⟩ = some (.int .u8 ((zs.getD j 0 : Nat) : Int))) :
  Calls Tryz.prog 94 #[.slice (some ⟨b, off, none⟩) 80 cap, .int .i64 8] w fun e w' => e = .returned (.tuple #[.int .i64 (IntKind.i64.wrap ((getB 0 zs : Nat) : Int)), .slice (some ⟨b, off2, none⟩) 72 cap2, .bool true]) ∧ Below w.heap.size w w' := by
 have HG := hidn (refGet_some b off 8 cap zs w hz hl.symm (by omega) (by omega) hc)
 obtain ⟨n, hn⟩ : ∃ n, n = getB 0 zs := ⟨_, rfl⟩
 rw [← hn] at HG ⊢
 obtain ⟨x, hx⟩ : ∃ x, IntKind.i64.wrap (n : Int) = x := ⟨_, rfl⟩
 rw [hx]
 have h8 : 8 ≤ cap := by omega
 have h8i : (8 : Int) ≤ (cap : Int) := by omega
 have hcapi : (80 : Int) ≤ (cap : Int) := by omega
 clear hl hz hc hn
 go_enter Tryz.func94, Tryz.ntmps94
 go_wp2_with fail
 refine HG.out.mono ?_
 clear HG
 rintro e w1 ⟨rfl, h1⟩
 subst h1
 go_wp2
 have HB := hidn ((Below.refl w1.heap.size w1).drew)
 refine wp_region_noPanic ?_
 refine wp_region_held_drew (S := fun _ => True) (by kernel_rfl) (trivial) (fun hHeld => ?_)
 refine dtk (i := 0) (v := .int .u64 (n : Int)) (some 20) rfl rfl (by kernel_rfl) (by kernel_rfl) (fun wq hw => by go_simp) hHeld ?_
 simp only [Act.put, sQ1, sQ2, sQ3]
 refine dtk (i := 1) (v := .int .i64 x) (some 21) rfl rfl (by kernel_rfl) (by kernel_rfl) (fun wq hw => by go_simp) hHeld ?_
 simp only [Act.put, sQ1, sQ2, sQ3]
 refine dtk (i := 2) (v := .slice (some ⟨b, off, none⟩) 80 cap) (some 22) rfl rfl (by kernel_rfl) (by kernel_rfl) (fun wq hw => by go_simp) hHeld ?_
 simp only [Act.put, sQ1, sQ2, sQ3]
 refine dtk (i := 3) (v := .int .i64 8) (some 23) rfl rfl (by kernel_rfl) (by kernel_rfl) (fun wq hw => by go_simp) hHeld ?_
 simp only [Act.put, sQ1, sQ2, sQ3]
 refine dtk (i := 4) (v := .slice (some ⟨b, off + 8, none⟩) 72 (cap - 8)) (some 24) rfl rfl (by kernel_rfl) (by kernel_rfl) (fun wq hw => by go_simp; omega) hHeld ?_
 simp only [Act.put, sQ1, sQ2, sQ3]
 refine dtk (i := 5) (v := .int .i64 x) (some 4) rfl rfl (by kernel_rfl) (by kernel_rfl) (fun wq hw => by go_simp) hHeld ?_
 simp only [Act.put, sQ1, sQ2, sQ3]
 refine dtk (i := 6) (v := .slice (some ⟨b, off + 8, none⟩) 72 (cap - 8)) (some 5) rfl rfl (by kernel_rfl) (by kernel_rfl) (fun wq hw => by go_simp) hHeld ?_
 simp only [Act.put, sQ1, sQ2, sQ3]
 refine dtk (i := 7) (v := .bool true) (some 6) rfl rfl (by kernel_rfl) (by kernel_rfl) (fun wq hw => by go_simp) hHeld ?_
 simp only [Act.put, sQ1, sQ2, sQ3]
 refine wpAnyH_done (by kernel_rfl) ?_ _
 refine NoPanic.normal ?_
 clear hHeld
 go_wp2_with fail
 go_ret3
 exact ⟨by subst ho; subst hc2; rfl, HB.out⟩
set_option maxHeartbeats 1000000 in
theorem int_1 (w : World) (b off cap off2 cap2 : Nat) (zs : List Nat) (hl : zs.length = 8) (hz : ∀ x ∈ zs, x < 256) (hcap : 72 ≤ cap) (ho : off + 8 = off2) (hc2 : cap - 8 = cap2) (hc : ∀ j, j < 8 → w.cell? ⟨b, off + j, none⟩ = some (.int .u8 ((zs.getD j 0 : Nat) : Int))) :
  Calls Tryz.prog 94 #[.slice (some ⟨b, off, none⟩) 72 cap, .int .i64 8] w fun e w' => e = .returned (.tuple #[.int .i64 (IntKind.i64.wrap ((getB 0 zs : Nat) : Int)), .slice (some ⟨b, off2, none⟩) 64 cap2, .bool true]) ∧ Below w.heap.size w w' := by
 have HG := hidn (refGet_some b off 8 cap zs w hz hl.symm (by omega) (by omega) hc)
 obtain ⟨n, hn⟩ : ∃ n, n = getB 0 zs := ⟨_, rfl⟩
 rw [← hn] at HG ⊢
 obtain ⟨x, hx⟩ : ∃ x, IntKind.i64.wrap (n : Int) = x := ⟨_, rfl⟩
 rw [hx]
 have h8 : 8 ≤ cap := by omega
 have h8i : (8 : Int) ≤ (cap : Int) := by omega
 have hcapi : (72 : Int) ≤ (cap : Int) := by omega
 clear hl hz hc hn
 go_enter Tryz.func94, Tryz.ntmps94
 go_wp2_with fail
 refine HG.out.mono ?_
 clear HG
 rintro e w1 ⟨rfl, h1⟩
 subst h1
 go_wp2
 have HB := hidn ((Below.refl w1.heap.size w1).drew)
 refine wp_region_noPanic ?_
 refine wp_region_held_drew (S := fun _ => True) (by kernel_rfl) (trivial) (fun hHeld => ?_)
 refine dtk (i := 0) (v := .int .u64 (n : Int)) (some 20) rfl rfl (by kernel_rfl) (by kernel_rfl) (fun wq hw => by go_simp) hHeld ?_
 simp only [Act.put, sQ1, sQ2, sQ3]
 refine dtk (i := 1) (v := .int .i64 x) (some 21) rfl rfl (by kernel_rfl) (by kernel_rfl) (fun wq hw => by go_simp) hHeld ?_
 simp only [Act.put, sQ1, sQ2, sQ3]
 refine dtk (i := 2) (v := .slice (some ⟨b, off, none⟩) 72 cap) (some 22) rfl rfl (by kernel_rfl) (by kernel_rfl) (fun wq hw => by go_simp) hHeld ?_
 simp only [Act.put, sQ1, sQ2, sQ3]
 refine dtk (i := 3) (v := .int .i64 8) (some 23) rfl rfl (by kernel_rfl) (by kernel_rfl) (fun wq hw => by go_simp) hHeld ?_
 simp only [Act.put, sQ1, sQ2, sQ3]
 refine dtk (i := 4) (v := .slice (some ⟨b, off + 8, none⟩) 64 (cap - 8)) (some 24) rfl rfl (by kernel_rfl) (by kernel_rfl) (fun wq hw => by go_simp; omega) hHeld ?_
 simp only [Act.put, sQ1, sQ2, sQ3]
 refine dtk (i := 5) (v := .int .i64 x) (some 4) rfl rfl (by kernel_rfl) (by kernel_rfl) (fun wq hw => by go_simp) hHeld ?_
 simp only [Act.put, sQ1, sQ2, sQ3]
 refine dtk (i := 6) (v := .slice (some ⟨b, off + 8, none⟩) 64 (cap - 8)) (some 5) rfl rfl (by kernel_rfl) (by kernel_rfl) (fun wq hw => by go_simp) hHeld ?_
 simp only [Act.put, sQ1, sQ2, sQ3]
 refine dtk (i := 7) (v := .bool true) (some 6) rfl rfl (by kernel_rfl) (by kernel_rfl) (fun wq hw => by go_simp) hHeld ?_
 simp only [Act.put, sQ1, sQ2, sQ3]
 refine wpAnyH_done (by kernel_rfl) ?_ _
 refine NoPanic.normal ?_
 clear hHeld
 go_wp2_with fail
 go_ret3
 exact ⟨by subst ho; subst hc2; rfl, HB.out⟩
set_option maxHeartbeats 1000000 in
theorem int_2 (w : World) (b off cap off2 cap2 : Nat) (zs : List Nat) (hl : zs.length = 8) (hz : ∀ x ∈ zs, x < 256) (hcap : 64 ≤ cap) (ho : off + 8 = off2) (hc2 : cap - 8 = cap2) (hc : ∀ j, j < 8 → w.cell? ⟨b, off + j, none⟩ = some (.int .u8 ((zs.getD j 0 : Nat) : Int))) :
  Calls Tryz.prog 94 #[.slice (some ⟨b, off, none⟩) 64 cap, .int .i64 8] w fun e w' => e = .returned (.tuple #[.int .i64 (IntKind.i64.wrap ((getB 0 zs : Nat) : Int)), .slice (some ⟨b, off2, none⟩) 56 cap2, .bool true]) ∧ Below w.heap.size w w' := by
 have HG := hidn (refGet_some b off 8 cap zs w hz hl.symm (by omega) (by omega) hc)
 obtain ⟨n, hn⟩ : ∃ n, n = getB 0 zs := ⟨_, rfl⟩
 rw [← hn] at HG ⊢
 obtain ⟨x, hx⟩ : ∃ x, IntKind.i64.wrap (n : Int) = x := ⟨_, rfl⟩
 rw [hx]
 have h8 : 8 ≤ cap := by omega
 have h8i : (8 : Int) ≤ (cap : Int) := by omega
 have hcapi : (64 : Int) ≤ (cap : Int) := by omega
 clear hl hz hc hn
 go_enter Tryz.func94, Tryz.ntmps94
 go_wp2_with fail
 refine HG.out.mono ?_
 clear HG
 rintro e w1 ⟨rfl, h1⟩
 subst h1
 go_wp2
 have HB := hidn ((Below.refl w1.heap.size w1).drew)
 refine wp_region_noPanic ?_
 refine wp_region_held_drew (S := fun _ => True) (by kernel_rfl) (trivial) (fun hHeld => ?_)
 refine dtk (i := 0) (v := .int .u64 (n : Int)) (some 20) rfl rfl (by kernel_rfl) (by kernel_rfl) (fun wq hw => by go_simp) hHeld ?_
 simp only [Act.put, sQ1, sQ2, sQ3]
 refine dtk (i := 1) (v := .int .i64 x) (some 21) rfl rfl (by kernel_rfl) (by kernel_rfl) (fun wq hw => by go_simp) hHeld ?_
 simp only [Act.put, sQ1, sQ2, sQ3]
 refine dtk (i := 2) (v := .slice (some ⟨b, off, none⟩) 64 cap) (some 22) rfl rfl (by kernel_rfl) (by kernel_rfl) (fun wq hw => by go_simp) hHeld ?_
 simp only [Act.put, sQ1, sQ2, sQ3]
 refine dtk (i := 3) (v := .int .i64 8) (some 23) rfl rfl (by kernel_rfl) (by kernel_rfl) (fun wq hw => by go_simp) hHeld ?_
 simp only [Act.put, sQ1, sQ2, sQ3]
 refine dtk (i := 4) (v := .slice (some ⟨b, off + 8, none⟩) 56 (cap - 8)) (some 24) rfl rfl (by kernel_rfl) (by kernel_rfl) (fun wq hw => by go_simp; omega) hHeld ?_
 simp only [Act.put, sQ1, sQ2, sQ3]
 refine dtk (i := 5) (v := .int .i64 x) (some 4) rfl rfl (by kernel_rfl) (by kernel_rfl) (fun wq hw => by go_simp) hHeld ?_
 simp only [Act.put, sQ1, sQ2, sQ3]
 refine dtk (i := 6) (v := .slice (some ⟨b, off + 8, none⟩) 56 (cap - 8)) (some 5) rfl rfl (by kernel_rfl) (by kernel_rfl) (fun wq hw => by go_simp) hHeld ?_
 simp only [Act.put, sQ1, sQ2, sQ3]
 refine dtk (i := 7) (v := .bool true) (some 6) rfl rfl (by kernel_rfl) (by kernel_rfl) (fun wq hw => by go_simp) hHeld ?_
 simp only [Act.put, sQ1, sQ2, sQ3]
 refine wpAnyH_done (by kernel_rfl) ?_ _
 refine NoPanic.normal ?_
 clear hHeld
 go_wp2_with fail
 go_ret3
 exact ⟨by subst ho; subst hc2; rfl, HB.out⟩
set_option maxHeartbeats 1000000 in
theorem int_3 (w : World) (b off cap off2 cap2 : Nat) (zs : List Nat) (hl : zs.length = 8) (hz : ∀ x ∈ zs, x < 256) (hcap : 56 ≤ cap) (ho : off + 8 = off2) (hc2 : cap - 8 = cap2) (hc : ∀ j, j < 8 → w.cell? ⟨b, off + j, none⟩ = some (.int .u8 ((zs.getD j 0 : Nat) : Int))) :
  Calls Tryz.prog 94 #[.slice (some ⟨b, off, none⟩) 56 cap, .int .i64 8] w fun e w' => e = .returned (.tuple #[.int .i64 (IntKind.i64.wrap ((getB 0 zs : Nat) : Int)), .slice (some ⟨b, off2, none⟩) 48 cap2, .bool true]) ∧ Below w.heap.size w w' := by
 have HG := hidn (refGet_some b off 8 cap zs w hz hl.symm (by omega) (by omega) hc)
 obtain ⟨n, hn⟩ : ∃ n, n = getB 0 zs := ⟨_, rfl⟩
 rw [← hn] at HG ⊢
 obtain ⟨x, hx⟩ : ∃ x, IntKind.i64.wrap (n : Int) = x := ⟨_, rfl⟩
 rw [hx]
 have h8 : 8 ≤ cap := by omega
 have h8i : (8 : Int) ≤ (cap : Int) := by omega
 have hcapi : (56 : Int) ≤ (cap : Int) := by omega
 clear hl hz hc hn
 go_enter Tryz.func94, Tryz.ntmps94
 go_wp2_with fail
 refine HG.out.mono ?_
 clear HG
 rintro e w1 ⟨rfl, h1⟩
 subst h1
 go_wp2
 have HB := hidn ((Below.refl w1.heap.size w1).drew)
 refine wp_region_noPanic ?_
 refine wp_region_held_drew (S := fun _ => True) (by kernel_rfl) (trivial) (fun hHeld => ?_)
 refine dtk (i := 0) (v := .int .u64 (n : Int)) (some 20) rfl rfl (by kernel_rfl) (by kernel_rfl) (fun wq hw => by go_simp) hHeld ?_
 simp only [Act.put, sQ1, sQ2, sQ3]
 refine dtk (i := 1) (v := .int .i64 x) (some 21) rfl rfl (by kernel_rfl) (by kernel_rfl) (fun wq hw => by go_simp) hHeld ?_
 simp only [Act.put, sQ1, sQ2, sQ3]
 refine dtk (i := 2) (v := .slice (some ⟨b, off, none⟩) 56 cap) (some 22) rfl rfl (by kernel_rfl) (by kernel_rfl) (fun wq hw => by go_simp) hHeld ?_
 simp only [Act.put, sQ1, sQ2, sQ3]
 refine dtk (i := 3) (v := .int .i64 8) (some 23) rfl rfl (by kernel_rfl) (by kernel_rfl) (fun wq hw => by go_simp) hHeld ?_
 simp only [Act.put, sQ1, sQ2, sQ3]
 refine dtk (i := 4) (v := .slice (some ⟨b, off + 8, none⟩) 48 (cap - 8)) (some 24) rfl rfl (by kernel_rfl) (by kernel_rfl) (fun wq hw => by go_simp; omega) hHeld ?_
 simp only [Act.put, sQ1, sQ2, sQ3]
 refine dtk (i := 5) (v := .int .i64 x) (some 4) rfl rfl (by kernel_rfl) (by kernel_rfl) (fun wq hw => by go_simp) hHeld ?_
 simp only [Act.put, sQ1, sQ2, sQ3]
 refine dtk (i := 6) (v := .slice (some ⟨b, off + 8, none⟩) 48 (cap - 8)) (some 5) rfl rfl (by kernel_rfl) (by kernel_rfl) (fun wq hw => by go_simp) hHeld ?_
 simp only [Act.put, sQ1, sQ2, sQ3]
 refine dtk (i := 7) (v := .bool true) (some 6) rfl rfl (by kernel_rfl) (by kernel_rfl) (fun wq hw => by go_simp) hHeld ?_
 simp only [Act.put, sQ1, sQ2, sQ3]
 refine wpAnyH_done (by kernel_rfl) ?_ _
 refine NoPanic.normal ?_
 clear hHeld
 go_wp2_with fail
 go_ret3
 exact ⟨by subst ho; subst hc2; rfl, HB.out⟩
set_option maxHeartbeats 1000000 in
theorem int_4 (w : World) (b off cap off2 cap2 : Nat) (zs : List Nat) (hl : zs.length = 8) (hz : ∀ x ∈ zs, x < 256) (hcap : 48 ≤ cap) (ho : off + 8 = off2) (hc2 : cap - 8 = cap2) (hc : ∀ j, j < 8 → w.cell? ⟨b, off + j, none⟩ = some (.int .u8 ((zs.getD j 0 : Nat) : Int))) :
  Calls Tryz.prog 94 #[.slice (some ⟨b, off, none⟩) 48 cap, .int .i64 8] w fun e w' => e = .returned (.tuple #[.int .i64 (IntKind.i64.wrap ((getB 0 zs : Nat) : Int)), .slice (some ⟨b, off2, none⟩) 40 cap2, .bool true]) ∧ Below w.heap.size w w' := by
 have HG := hidn (refGet_some b off 8 cap zs w hz hl.symm (by omega) (by omega) hc)
 obtain ⟨n, hn⟩ : ∃ n, n = getB 0 zs := ⟨_, rfl⟩
 rw [← hn] at HG ⊢
 obtain ⟨x, hx⟩ : ∃ x, IntKind.i64.wrap (n : Int) = x := ⟨_, rfl⟩
 rw [hx]
 have h8 : 8 ≤ cap := by omega
 have h8i : (8 : Int) ≤ (cap : Int) := by omega
 have hcapi : (48 : Int) ≤ (cap : Int) := by omega
 clear hl hz hc hn
 go_enter Tryz.func94, Tryz.ntmps94
 go_wp2_with fail
 refine HG.out.mono ?_
 clear HG
 rintro e w1 ⟨rfl, h1⟩
 subst h1
 go_wp2
 have HB := hidn ((Below.refl w1.heap.size w1).drew)
 refine wp_region_noPanic ?_
 refine wp_region_held_drew (S := fun _ => True) (by kernel_rfl) (trivial) (fun hHeld => ?_)
 refine dtk (i := 0) (v := .int .u64 (n : Int)) (some 20) rfl rfl (by kernel_rfl) (by kernel_rfl) (fun wq hw => by go_simp) hHeld ?_
 simp only [Act.put, sQ1, sQ2, sQ3]
 refine dtk (i := 1) (v := .int .i64 x) (some 21) rfl rfl (by kernel_rfl) (by kernel_rfl) (fun wq hw => by go_simp) hHeld ?_
 simp only [Act.put, sQ1, sQ2, sQ3]
 refine dtk (i := 2) (v := .slice (some ⟨b, off, none⟩) 48 cap) (some 22) rfl rfl (by kernel_rfl) (by kernel_rfl) (fun wq hw => by go_simp) hHeld ?_
 simp only [Act.put, sQ1, sQ2, sQ3]
 refine dtk (i := 3) (v := .int .i64 8) (some 23) rfl rfl (by kernel_rfl) (by kernel_rfl) (fun wq hw => by go_simp) hHeld ?_
 simp only [Act.put, sQ1, sQ2, sQ3]
 refine dtk (i := 4) (v := .slice (some ⟨b, off + 8, none⟩) 40 (cap - 8)) (some 24) rfl rfl (by kernel_rfl) (by kernel_rfl) (fun wq hw => by go_simp; omega) hHeld ?_
 simp only [Act.put, sQ1, sQ2, sQ3]
 refine dtk (i := 5) (v := .int .i64 x) (some 4) rfl rfl (by kernel_rfl) (by kernel_rfl) (fun wq hw => by go_simp) hHeld ?_
 simp only [Act.put, sQ1, sQ2, sQ3]
 refine dtk (i := 6) (v := .slice (some ⟨b, off + 8, none⟩) 40 (cap - 8)) (some 5) rfl rfl (by kernel_rfl) (by kernel_rfl) (fun wq hw => by go_simp) hHeld ?_
 simp only [Act.put, sQ1, sQ2, sQ3]
 refine dtk (i := 7) (v := .bool true) (some 6) rfl rfl (by kernel_rfl) (by kernel_rfl) (fun wq hw => by go_simp) hHeld ?_
 simp only [Act.put, sQ1, sQ2, sQ3]
 refine wpAnyH_done (by kernel_rfl) ?_ _
 refine NoPanic.normal ?_
 clear hHeld
 go_wp2_with fail
 go_ret3
 exact ⟨by subst ho; subst hc2; rfl, HB.out⟩
set_option maxHeartbeats 1000000 in
theorem int_5 (w : World) (b off cap off2 cap2 : Nat) (zs : List Nat) (hl : zs.length = 8) (hz : ∀ x ∈ zs, x < 256) (hcap : 40 ≤ cap) (ho : off + 8 = off2) (hc2 : cap - 8 = cap2) (hc : ∀ j, j < 8 → w.cell? ⟨b, off + j, none⟩ = some (.int .u8 ((zs.getD j 0 : Nat) : Int))) :
  Calls Tryz.prog 94 #[.slice (some ⟨b, off, none⟩) 40 cap, .int .i64 8] w fun e w' => e = .returned (.tuple #[.int .i64 (IntKind.i64.wrap ((getB 0 zs : Nat) : Int)), .slice (some ⟨b, off2, none⟩) 32 cap2, .bool true]) ∧ Below w.heap.size w w' := by
 have HG := hidn (refGet_some b off 8 cap zs w hz hl.symm (by omega) (by omega) hc)
 obtain ⟨n, hn⟩ : ∃ n, n = getB 0 zs := ⟨_, rfl⟩
 rw [← hn] at HG ⊢
 obtain ⟨x, hx⟩ : ∃ x, IntKind.i64.wrap (n : Int) = x := ⟨_, rfl⟩
 rw [hx]
 have h8 : 8 ≤ cap := by omega
 have h8i : (8 : Int) ≤ (cap : Int) := by omega
 have hcapi : (40 : Int) ≤ (cap : Int) := by omega
 clear hl hz hc hn
 go_enter Tryz.func94, Tryz.ntmps94
 go_wp2_with fail
 refine HG.out.mono ?_
 clear HG
 rintro e w1 ⟨rfl, h1⟩
 subst h1
 go_wp2
 have HB := hidn ((Below.refl w1.heap.size w1).drew)
 refine wp_region_noPanic ?_
 refine wp_region_held_drew (S := fun _ => True) (by kernel_rfl) (trivial) (fun hHeld => ?_)
 refine dtk (i := 0) (v := .int .u64 (n : Int)) (some 20) rfl rfl (by kernel_rfl) (by kernel_rfl) (fun wq hw => by go_simp) hHeld ?_
 simp only [Act.put, sQ1, sQ2, sQ3]
 refine dtk (i := 1) (v := .int .i64 x) (some 21) rfl rfl (by kernel_rfl) (by kernel_rfl) (fun wq hw => by go_simp) hHeld ?_
 simp only [Act.put, sQ1, sQ2, sQ3]
 refine dtk (i := 2) (v := .slice (some ⟨b, off, none⟩) 40 cap) (some 22) rfl rfl (by kernel_rfl) (by kernel_rfl) (fun wq hw => by go_simp) hHeld ?_
 simp only [Act.put, sQ1, sQ2, sQ3]
 refine dtk (i := 3) (v := .int .i64 8) (some 23) rfl rfl (by kernel_rfl) (by kernel_rfl) (fun wq hw => by go_simp) hHeld ?_
 simp only [Act.put, sQ1, sQ2, sQ3]
 refine dtk (i := 4) (v := .slice (some ⟨b, off + 8, none⟩) 32 (cap - 8)) (some 24) rfl rfl (by kernel_rfl) (by kernel_rfl) (fun wq hw => by go_simp; omega) hHeld ?_
 simp only [Act.put, sQ1, sQ2, sQ3]
 refine dtk (i := 5) (v := .int .i64 x) (some 4) rfl rfl (by kernel_rfl) (by kernel_rfl) (fun wq hw => by go_simp) hHeld ?_
 simp only [Act.put, sQ1, sQ2, sQ3]
 refine dtk (i := 6) (v := .slice (some ⟨b, off + 8, none⟩) 32 (cap - 8)) (some 5) rfl rfl (by kernel_rfl) (by kernel_rfl) (fun wq hw => by go_simp) hHeld ?_
 simp only [Act.put, sQ1, sQ2, sQ3]
 refine dtk (i := 7) (v := .bool true) (some 6) rfl rfl (by kernel_rfl) (by kernel_rfl) (fun wq hw => by go_simp) hHeld ?_
 simp only [Act.put, sQ1, sQ2, sQ3]
 refine wpAnyH_done (by kernel_rfl) ?_ _
 refine NoPanic.normal ?_
 clear hHeld
 go_wp2_with fail
 go_ret3
 exact ⟨by subst ho; subst hc2; rfl, HB.out⟩
set_option maxHeartbeats 1000000 in
theorem int_6 (w : World) (b off cap off2 cap2 : Nat) (zs : List Nat) (hl : zs.length = 8) (hz : ∀ x ∈ zs, x < 256) (hcap : 32 ≤ cap) (ho : off + 8 = off2) (hc2 : cap - 8 = cap2) (hc : ∀ j, j < 8 → w.cell? ⟨b, off + j, none⟩ = some (.int .u8 ((zs.getD j 0 : Nat) : Int))) :
  Calls Tryz.prog 94 #[.slice (some ⟨b, off, none⟩) 32 cap, .int .i64 8] w fun e w' => e = .returned (.tuple #[.int .i64 (IntKind.i64.wrap ((getB 0 zs : Nat) : Int)), .slice (some ⟨b, off2, none⟩) 24 cap2, .bool true]) ∧ Below w.heap.size w w' := by
 have HG := hidn (refGet_some b off 8 cap zs w hz hl.symm (by omega) (by omega) hc)
 obtain ⟨n, hn⟩ : ∃ n, n = getB 0 zs := ⟨_, rfl⟩
 rw [← hn] at HG ⊢
 obtain ⟨x, hx⟩ : ∃ x, IntKind.i64.wrap (n : Int) = x := ⟨_, rfl⟩
 rw [hx]
 have h8 : 8 ≤ cap := by omega
 have h8i : (8 : Int) ≤ (cap : Int) := by omega
 have hcapi : (32 : Int) ≤ (cap : Int) := by omega
 clear hl hz hc hn
 go_enter Tryz.func94, Tryz.ntmps94
 go_wp2_with fail
 refine HG.out.mono ?_
 clear HG
 rintro e w1 ⟨rfl, h1⟩
 subst h1
 go_wp2
 have HB := hidn ((Below.refl w1.heap.size w1).drew)
 refine wp_region_noPanic ?_
 refine wp_region_held_drew (S := fun _ => True) (by kernel_rfl) (trivial) (fun hHeld => ?_)
 refine dtk (i := 0) (v := .int .u64 (n : Int)) (some 20) rfl rfl (by kernel_rfl) (by kernel_rfl) (fun wq hw => by go_simp) hHeld ?_
 simp only [Act.put, sQ1, sQ2, sQ3]
 refine dtk (i := 1) (v := .int .i64 x) (some 21) rfl rfl (by kernel_rfl) (by kernel_rfl) (fun wq hw => by go_simp) hHeld ?_
 simp only [Act.put, sQ1, sQ2, sQ3]
 refine dtk (i := 2) (v := .slice (some ⟨b, off, none⟩) 32 cap) (some 22) rfl rfl (by kernel_rfl) (by kernel_rfl) (fun wq hw => by go_simp) hHeld ?_
 simp only [Act.put, sQ1, sQ2, sQ3]
 refine dtk (i := 3) (v := .int .i64 8) (some 23) rfl rfl (by kernel_rfl) (by kernel_rfl) (fun wq hw => by go_simp) hHeld ?_
 simp only [Act.put, sQ1, sQ2, sQ3]
 refine dtk (i := 4) (v := .slice (some ⟨b, off + 8, none⟩) 24 (cap - 8)) (some 24) rfl rfl (by kernel_rfl) (by kernel_rfl) (fun wq hw => by go_simp; omega) hHeld ?_
 simp only [Act.put, sQ1, sQ2, sQ3]
 refine dtk (i := 5) (v := .int .i64 x) (some 4) rfl rfl (by kernel_rfl) (by kernel_rfl) (fun wq hw => by go_simp) hHeld ?_
 simp only [Act.put, sQ1, sQ2, sQ3]
 refine dtk (i := 6) (v := .slice (some ⟨b, off + 8, none⟩) 24 (cap - 8)) (some 5) rfl rfl (by kernel_rfl) (by kernel_rfl) (fun wq hw => by go_simp) hHeld ?_
 simp only [Act.put, sQ1, sQ2, sQ3]
 refine dtk (i := 7) (v := .bool true) (some 6) rfl rfl (by kernel_rfl) (by kernel_rfl) (fun wq hw => by go_simp) hHeld ?_
 simp only [Act.put, sQ1, sQ2, sQ3]
 refine wpAnyH_done (by kernel_rfl) ?_ _
 refine NoPanic.normal ?_
 clear hHeld
 go_wp2_with fail
 go_ret3
 exact ⟨by subst ho; subst hc2; rfl, HB.out⟩
set_option maxHeartbeats 1000000 in
theorem int_7 (w : World) (b off cap off2 cap2 : Nat) (zs : List Nat) (hl : zs.length = 8) (hz : ∀ x ∈ zs, x < 256) (hcap : 24 ≤ cap) (ho : off + 8 = off2) (hc2 : cap - 8 = cap2) (hc : ∀ j, j < 8 → w.cell? ⟨b, off + j, none⟩ = some (.int .u8 ((zs.getD j 0 : Nat) : Int))) :
  Calls Tryz.prog 94 #[.slice (some ⟨b, off, none⟩) 24 cap, .int .i64 8] w fun e w' => e = .returned (.tuple #[.int .i64 (IntKind.i64.wrap ((getB 0 zs : Nat) : Int)), .slice (some ⟨b, off2, none⟩) 16 cap2, .bool true]) ∧ Below w.heap.size w w' := by
 have HG := hidn (refGet_some b off 8 cap zs w hz hl.symm (by omega) (by omega) hc)
 obtain ⟨n, hn⟩ : ∃ n, n = getB 0 zs := ⟨_, rfl⟩
 rw [← hn] at HG ⊢
 obtain ⟨x, hx⟩ : ∃ x, IntKind.i64.wrap (n : Int) = x := ⟨_, rfl⟩
 rw [hx]
 have h8 : 8 ≤ cap := by omega
 have h8i : (8 : Int) ≤ (cap : Int) := by omega
 have hcapi : (24 : Int) ≤ (cap : Int) := by omega
 clear hl hz hc hn
 go_enter Tryz.func94, Tryz.ntmps94
 go_wp2_with fail
 refine HG.out.mono ?_
 clear HG
 rintro e w1 ⟨rfl, h1⟩
 subst h1
 go_wp2
 have HB := hidn ((Below.refl w1.heap.size w1).drew)
 refine wp_region_noPanic ?_
 refine wp_region_held_drew (S := fun _ => True) (by kernel_rfl) (trivial) (fun hHeld => ?_)
 refine dtk (i := 0) (v := .int .u64 (n : Int)) (some 20) rfl rfl (by kernel_rfl) (by kernel_rfl) (fun wq hw => by go_simp) hHeld ?_
 simp only [Act.put, sQ1, sQ2, sQ3]
 refine dtk (i := 1) (v := .int .i64 x) (some 21) rfl rfl (by kernel_rfl) (by kernel_rfl) (fun wq hw => by go_simp) hHeld ?_
 simp only [Act.put, sQ1, sQ2, sQ3]
 refine dtk (i := 2) (v := .slice (some ⟨b, off, none⟩) 24 cap) (some 22) rfl rfl (by kernel_rfl) (by kernel_rfl) (fun wq hw => by go_simp) hHeld ?_
 simp only [Act.put, sQ1, sQ2, sQ3]
 refine dtk (i := 3) (v := .int .i64 8) (some 23) rfl rfl (by kernel_rfl) (by kernel_rfl) (fun wq hw => by go_simp) hHeld ?_
 simp only [Act.put, sQ1, sQ2, sQ3]
 refine dtk (i := 4) (v := .slice (some ⟨b, off + 8, none⟩) 16 (cap - 8)) (some 24) rfl rfl (by kernel_rfl) (by kernel_rfl) (fun wq hw => by go_simp; omega) hHeld ?_
 simp only [Act.put, sQ1, sQ2, sQ3]
 refine dtk (i := 5) (v := .int .i64 x) (some 4) rfl rfl (by kernel_rfl) (by kernel_rfl) (fun wq hw => by go_simp) hHeld ?_
 simp only [Act.put, sQ1, sQ2, sQ3]
 refine dtk (i := 6) (v := .slice (some ⟨b, off + 8, none⟩) 16 (cap - 8)) (some 5) rfl rfl (by kernel_rfl) (by kernel_rfl) (fun wq hw => by go_simp) hHeld ?_
 simp only [Act.put, sQ1, sQ2, sQ3]
 refine dtk (i := 7) (v := .bool true) (some 6) rfl rfl (by kernel_rfl) (by kernel_rfl) (fun wq hw => by go_simp) hHeld ?_
 simp only [Act.put, sQ1, sQ2, sQ3]
 refine wpAnyH_done (by kernel_rfl) ?_ _
 refine NoPanic.normal ?_
 clear hHeld
 go_wp2_with fail
 go_ret3
 exact ⟨by subst ho; subst hc2; rfl, HB.out⟩
set_option maxHeartbeats 1000000 in
theorem int_8 (w : World) (b off cap off2 cap2 : Nat) (zs : List Nat) (hl : zs.length = 8) (hz : ∀ x ∈ zs, x < 256) (hcap : 16 ≤ cap) (ho : off + 8 = off2) (hc2 : cap - 8 = cap2) (hc : ∀ j, j < 8 → w.cell? ⟨b, off + j, none⟩ = some (.int .u8 ((zs.getD j 0 : Nat) : Int))) :
  Calls Tryz.prog 94 #[.slice (some ⟨b, off, none⟩) 16 cap, .int .i64 8] w fun e w' => e = .returned (.tuple #[.int .i64 (IntKind.i64.wrap ((getB 0 zs : Nat) : Int)), .slice (some ⟨b, off2, none⟩) 8 cap2, .bool true]) ∧ Below w.heap.size w w' := by
 have HG := hidn (refGet_some b off 8 cap zs w hz hl.symm (by omega) (by omega) hc)
 obtain ⟨n, hn⟩ : ∃ n, n = getB 0 zs := ⟨_, rfl⟩
 rw [← hn] at HG ⊢
 obtain ⟨x, hx⟩ : ∃ x, IntKind.i64.wrap (n : Int) = x := ⟨_, rfl⟩
 rw [hx]
 have h8 : 8 ≤ cap := by omega
 have h8i : (8 : Int) ≤ (cap : Int) := by omega
 have hcapi : (16 : Int) ≤ (cap : Int) := by omega
 clear hl hz hc hn
 go_enter Tryz.func94, Tryz.ntmps94
 go_wp2_with fail
 refine HG.out.mono ?_
 clear HG
 rintro e w1 ⟨rfl, h1⟩
 subst h1
 go_wp2
 have HB := hidn ((Below.refl w1.heap.size w1).drew)
 refine wp_region_noPanic ?_
 refine wp_region_held_drew (S := fun _ => True) (by kernel_rfl) (trivial) (fun hHeld => ?_)
 refine dtk (i := 0) (v := .int .u64 (n : Int)) (some 20) rfl rfl (by kernel_rfl) (by kernel_rfl) (fun wq hw => by go_simp) hHeld ?_
 simp only [Act.put, sQ1, sQ2, sQ3]
 refine dtk (i := 1) (v := .int .i64 x) (some 21) rfl rfl (by kernel_rfl) (by kernel_rfl) (fun wq hw => by go_simp) hHeld ?_
 simp only [Act.put, sQ1, sQ2, sQ3]
 refine dtk (i := 2) (v := .slice (some ⟨b, off, none⟩) 16 cap) (some 22) rfl rfl (by kernel_rfl) (by kernel_rfl) (fun wq hw => by go_simp) hHeld ?_
 simp only [Act.put, sQ1, sQ2, sQ3]
 refine dtk (i := 3) (v := .int .i64 8) (some 23) rfl rfl (by kernel_rfl) (by kernel_rfl) (fun wq hw => by go_simp) hHeld ?_
 simp only [Act.put, sQ1, sQ2, sQ3]
 refine dtk (i := 4) (v := .slice (some ⟨b, off + 8, none⟩) 8 (cap - 8)) (some 24) rfl rfl (by kernel_rfl) (by kernel_rfl) (fun wq hw => by go_simp; omega) hHeld ?_
 simp only [Act.put, sQ1, sQ2, sQ3]
 refine dtk (i := 5) (v := .int .i64 x) (some 4) rfl rfl (by kernel_rfl) (by kernel_rfl) (fun wq hw => by go_simp) hHeld ?_
 simp only [Act.put, sQ1, sQ2, sQ3]
 refine dtk (i := 6) (v := .slice (some ⟨b, off + 8, none⟩) 8 (cap - 8)) (some 5) rfl rfl (by kernel_rfl) (by kernel_rfl) (fun wq hw => by go_simp) hHeld ?_
 simp only [Act.put, sQ1, sQ2, sQ3]
 refine dtk (i := 7) (v := .bool true) (some 6) rfl rfl (by kernel_rfl) (by kernel_rfl) (fun wq hw => by go_simp) hHeld ?_
 simp only [Act.put, sQ1, sQ2, sQ3]
 refine wpAnyH_done (by kernel_rfl) ?_ _
 refine NoPanic.normal ?_
 clear hHeld
 go_wp2_with fail
 go_ret3
 exact ⟨by subst ho; subst hc2; rfl, HB.out⟩
set_option maxHeartbeats 1000000 in
theorem int_9 (w : World) (b off cap : Nat) (zs : List Nat) (hl : zs.length = 8) (hz : ∀ x ∈ zs, x < 256) (hcap : 8 ≤ cap) (hc : ∀ j, j < 8 → w.cell? ⟨b, off + j, none⟩ = some (.int .u8 ((zs.getD j 0 : Nat) : Int))) :
  Calls Tryz.prog 94 #[.slice (some ⟨b, off, none⟩) 8 cap, .int .i64 8] w fun e w' => ∃ o, e = .returned (.tuple #[.int .i64 (IntKind.i64.wrap ((getB 0 zs : Nat) : Int)), .slice (some ⟨b, o, none⟩) 0 (cap - 8), .bool true]) ∧ Below w.heap.size w w' := by
 have HG := hidn (refGet_some b off 8 cap zs w hz hl.symm (by omega) (by omega) hc)
 obtain ⟨n, hn⟩ : ∃ n, n = getB 0 zs := ⟨_, rfl⟩
 rw [← hn] at HG ⊢
 obtain ⟨x, hx⟩ : ∃ x, IntKind.i64.wrap (n : Int) = x := ⟨_, rfl⟩
 rw [hx]
 have h8i : (8 : Int) ≤ (cap : Int) := by omega
 clear hl hz hc hn
 go_enter Tryz.func94, Tryz.ntmps94
 go_wp2_with fail
 refine HG.out.mono ?_
 clear HG
 rintro e w1 ⟨rfl, h1⟩
 subst h1
 go_wp2
 have HB := hidn ((Below.refl w1.heap.size w1).drew)
 by_cases hc8 : cap = 8
 ·
  skip
  refine wp_region_noPanic ?_
  refine wp_region_held_drew (S := fun _ => True) (by kernel_rfl) (trivial) (fun hHeld => ?_)
  refine dtk (i := 0) (v := .int .u64 (n : Int)) (some 20) rfl rfl (by kernel_rfl) (by kernel_rfl) (fun wq hw => by go_simp) hHeld ?_
  simp only [Act.put, sQ1, sQ2, sQ3]
  refine dtk (i := 1) (v := .int .i64 x) (some 21) rfl rfl (by kernel_rfl) (by kernel_rfl) (fun wq hw => by go_simp) hHeld ?_
  simp only [Act.put, sQ1, sQ2, sQ3]
  refine dtk (i := 2) (v := .slice (some ⟨b, off, none⟩) 8 cap) (some 22) rfl rfl (by kernel_rfl) (by kernel_rfl) (fun wq hw => by go_simp) hHeld ?_
  simp only [Act.put, sQ1, sQ2, sQ3]
  refine dtk (i := 3) (v := .int .i64 8) (some 23) rfl rfl (by kernel_rfl) (by kernel_rfl) (fun wq hw => by go_simp) hHeld ?_
  simp only [Act.put, sQ1, sQ2, sQ3]
  refine dtk (i := 4) (v := .slice (some ⟨b, off, none⟩) 0 (cap - 8)) (some 24) rfl rfl (by kernel_rfl) (by kernel_rfl) (fun wq hw => by go_simp) hHeld ?_
  simp only [Act.put, sQ1, sQ2, sQ3]
  refine dtk (i := 5) (v := .int .i64 x) (some 4) rfl rfl (by kernel_rfl) (by kernel_rfl) (fun wq hw => by go_simp) hHeld ?_
  simp only [Act.put, sQ1, sQ2, sQ3]
  refine dtk (i := 6) (v := .slice (some ⟨b, off, none⟩) 0 (cap - 8)) (some 5) rfl rfl (by kernel_rfl) (by kernel_rfl) (fun wq hw => by go_simp) hHeld ?_
  simp only [Act.put, sQ1, sQ2, sQ3]
  refine dtk (i := 7) (v := .bool true) (some 6) rfl rfl (by kernel_rfl) (by kernel_rfl) (fun wq hw => by go_simp) hHeld ?_
  simp only [Act.put, sQ1, sQ2, sQ3]
  refine wpAnyH_done (by kernel_rfl) ?_ _
  refine NoPanic.normal ?_
  clear hHeld
  go_wp2_with fail
  go_ret3
  exact ⟨_, rfl, HB.out⟩
 ·
  skip
  refine wp_region_noPanic ?_
  refine wp_region_held_drew (S := fun _ => True) (by kernel_rfl) (trivial) (fun hHeld => ?_)
  refine dtk (i := 0) (v := .int .u64 (n : Int)) (some 20) rfl rfl (by kernel_rfl) (by kernel_rfl) (fun wq hw => by go_simp) hHeld ?_
  simp only [Act.put, sQ1, sQ2, sQ3]
  refine dtk (i := 1) (v := .int .i64 x) (some 21) rfl rfl (by kernel_rfl) (by kernel_rfl) (fun wq hw => by go_simp) hHeld ?_
  simp only [Act.put, sQ1, sQ2, sQ3]
  refine dtk (i := 2) (v := .slice (some ⟨b, off, none⟩) 8 cap) (some 22) rfl rfl (by kernel_rfl) (by kernel_rfl) (fun wq hw => by go_simp) hHeld ?_
  simp only [Act.put, sQ1, sQ2, sQ3]
  refine dtk (i := 3) (v := .int .i64 8) (some 23) rfl rfl (by kernel_rfl) (by kernel_rfl) (fun wq hw => by go_simp) hHeld ?_
  simp only [Act.put, sQ1, sQ2, sQ3]
  refine dtk (i := 4) (v := .slice (some ⟨b, off + 8, none⟩) 0 (cap - 8)) (some 24) rfl rfl (by kernel_rfl) (by kernel_rfl) (fun wq hw => by go_simp) hHeld ?_
  simp only [Act.put, sQ1, sQ2, sQ3]
  refine dtk (i := 5) (v := .int .i64 x) (some 4) rfl rfl (by kernel_rfl) (by kernel_rfl) (fun wq hw => by go_simp) hHeld ?_
  simp only [Act.put, sQ1, sQ2, sQ3]
  refine dtk (i := 6) (v := .slice (some ⟨b, off + 8, none⟩) 0 (cap - 8)) (some 5) rfl rfl (by kernel_rfl) (by kernel_rfl) (fun wq hw => by go_simp) hHeld ?_
  simp only [Act.put, sQ1, sQ2, sQ3]
  refine dtk (i := 7) (v := .bool true) (some 6) rfl rfl (by kernel_rfl) (by kernel_rfl) (fun wq hw => by go_simp) hHeld ?_
  simp only [Act.put, sQ1, sQ2, sQ3]
  refine wpAnyH_done (by kernel_rfl) ?_ _
  refine NoPanic.normal ?_
  clear hHeld
  go_wp2_with fail
  go_ret3
  exact ⟨_, rfl, HB.out⟩
set_option maxHeartbeats 1000000 in
theorem refDecode_len (w : World) (a : Option Addr) (len cap : Nat) (hl : len ≠ 80) (hm : len ≤ maxLen) :
  Calls Tryz.prog 80 #[.slice a len cap] w fun e w' => e = .returned (.tuple #[.agg #[.int .i64 0, .int .i64 0, .int .i64 0, .int .i64 0, .int .i64 0, .int .i64 0, .int .i64 0, .int .i64 0, .int .i64 0, .int .i64 0], .int .i64 5]) ∧ Below w.heap.size w w' := by
 unfold maxLen at hm
 have h1 : ((len : Int) != 80) = true := by simp; omega
 go_enter Tryz.func80, Tryz.ntmps80
 go_wp2
 exact bodyPost_ret (v := .tuple #[.agg #[.int .i64 0, .int .i64 0, .int .i64 0, .int .i64 0, .int .i64 0, .int .i64 0, .int .i64 0, .int .i64 0, .int .i64 0, .int .i64 0], .int .i64 5]) (results_cell_row_tmp rfl _ _ w.heap.size 58 #[.int .i64 0, .int .i64 0, .int .i64 0, .int .i64 0, .int .i64 0, .int .i64 0, .int .i64 0, .int .i64 0, .int .i64 0, .int .i64 0] (0, 0) _ rfl (heap_alloc_new _ _) Tryz.underlying58 rfl (by kernel_rfl) _ rfl) rfl ⟨rfl, below1 _ _⟩
end Go.Proofs.YtdppolelakbbiaaGreatDoor
