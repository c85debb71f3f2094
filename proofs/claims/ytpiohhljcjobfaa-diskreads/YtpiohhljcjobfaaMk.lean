/- bytes.Repeat of one byte seven, 128 times; a step's bytes, filled up. -/
import Derived.Test.YtpiohhljcjobfaaDiskPut
import Derived.Test.YtpiohhljcjobfaaDrawn
import Derived.Lib.MakeNoZero
import Derived.Laws.CopyRow
import Derived.Test.YtpiohhljcjobfaaMd
import Derived.Test.YtpiohhljcjobfaaMe
import Derived.Test.YtpiohhljcjobfaaDiskRead
namespace Go.Proofs.Ytpiohhljcjobfaa
open Go.RowKit Go.Maps
set_option linter.unusedVariables false
theorem hidy {p : Prop} (h : p) : Hid p := h
set_option maxHeartbeats 1000000 in
theorem mul64_c (w : World) :
    Calls Try.prog 65 #[.int .u64 1, .int .u64 128] w fun e w' => e = .returned (.tuple #[.int .u64 0, .int .u64 128]) ∧ Below w.heap.size w w' := by
  go_enter Try.func65, Try.ntmps65
  go_wp2
  exact bodyPost_ret (v := .tuple #[.int .u64 0, .int .u64 128]) (by simp [results, Try.results65, go_sem]; decide +kernel) rfl ⟨rfl, Below.refl _ _⟩
set_option maxHeartbeats 1000000 in
theorem mul_c (w : World) :
    Calls Try.prog 50 #[.int .u64 1, .int .u64 128] w fun e w' => e = .returned (.tuple #[.int .u64 0, .int .u64 128]) ∧ Below w.heap.size w w' := by
  go_enter Try.func50, Try.ntmps50
  go_wp2_with fail
  refine (mul64_c _).mono ?_
  rintro e w1 ⟨rfl, b1⟩
  go_wp2
  exact bodyPost_ret (v := .tuple #[.int .u64 0, .int .u64 128]) (by simp [results, Try.results50, go_sem]) rfl ⟨rfl, b1⟩
theorem mnz (w : World) : ∃ cs : Array Value, (callFunc 51 #[.int .i64 128]).run Try.prog w = .ok (.value (.slice (some ⟨w.heap.size, 0, none⟩) 128 cs.size)) (w.drew.drew.alloc (.cells cs 5)) ∧ 128 ≤ cs.size := by
  obtain ⟨cs, hrun, hle, hmax⟩ := Lib.run_makeNoZero (P := Try.prog) w #[3] 31 5 Try.underlying31 128 (by omega)
  refine ⟨cs, ?_, hle⟩
  rw [run_callFunc_extern Try.func51 (by kernel_rfl) (by kernel_rfl) (by kernel_rfl) (e := Extern.BytealgMakeNoZero.makeNoZero #[3] #[31]) (by kernel_rfl)]
  rw [show ((128 : Nat) : Int) = 128 from rfl] at hrun
  rw [hrun]
  rfl
/-- The row of a repeat under way: k sevens, and what was there behind. -/
def RepRow (w : World) (b : Nat) (k : Nat) : Prop := ∃ cs : Array Value, w.heap[b]? = some (.cells cs 5 (0, 0)) ∧ 128 ≤ cs.size ∧ ∀ j, j < k → cs[j]? = some (.int .u8 7)
theorem RepRow.copy {w : World} {b k : Nat} (h : RepRow w b k) (hk : 1 ≤ k) (hk2 : k < 128) (m : Nat) (hm : m = min k (128 - k)) (ty : TypeId) :
    ∃ w2, (Builtin.copy_ #[31, 31] ty #[.slice (some ⟨b, k, none⟩) (128 - k) (128 - k), .slice (some ⟨b, 0, none⟩) k 128]).run Try.prog w = .ok (.int .i64 (m : Int)) w2 ∧ RepRow w2 b (k + m) ∧ (∀ n, n ≤ b → Below n w w2) := by
  obtain ⟨cs, hh, hs, hc⟩ := h
  have hinfo : (Try.prog.info? 5).map (·.size) = some 1 := by kernel_rfl
  have := run_copy_row (P := Try.prog) w 31 31 ty 5 b k (128 - k) (128 - k) ⟨b, 0, none⟩ k 128 cs 5 (List.replicate m (.int .u8 7)) Try.underlying31 hinfo hh
    (by rw [List.length_replicate, hm])
    (fun j v hj => by
      obtain ⟨h1, h2⟩ := List.getElem?_eq_some_iff.1 hj
      rw [List.length_replicate] at h1
      rw [List.getElem_replicate] at h2
      rw [add_none, cell_of_row _ _ _ _ _ _ hh, Nat.zero_add, hc j (by omega), h2])
    (by rw [List.length_replicate]; omega) (fun v hv => by rw [List.eq_of_mem_replicate hv]; rfl)
  rw [List.length_replicate] at this
  refine ⟨_, this, ⟨_, setRow_heap _ _ _ _ _ _ hh, ?_, ?_⟩, fun n hn => below_setRow (Below.refl _ _) hn _⟩
  · simp
    omega
  · intro j hj
    rw [List.getElem?_toArray]
    by_cases h1 : j < k
    · rw [List.append_assoc, List.getElem?_append_left (by simp; omega), List.getElem?_take, if_pos h1, Array.getElem?_toList]
      exact hc j h1
    · rw [List.getElem?_append_left (by simp; omega), List.getElem?_append_right (by simp; omega)]
      rw [List.getElem?_replicate, if_pos (by simp; omega)]
theorem RepRow.first {w : World} {b : Nat} {cs : Array Value} (hh : w.heap[b]? = some (.cells cs 5 (0, 0))) (hs : 128 ≤ cs.size) (a : Addr) (ha : w.cell? a = some (.int .u8 7)) (hn : a.add 0 = a) (ty : TypeId) :
    ∃ w2, (Builtin.copy_ #[31, 31] ty #[.slice (some ⟨b, 0, none⟩) 128 128, .slice (some a) 1 1]).run Try.prog w = .ok (.int .i64 1) w2 ∧ RepRow w2 b 1 ∧ (∀ n, n ≤ b → Below n w w2) := by
  have hinfo : (Try.prog.info? 5).map (·.size) = some 1 := by kernel_rfl
  have := run_copy_row (P := Try.prog) w 31 31 ty 5 b 0 128 128 a 1 1 cs 5 [.int .u8 7] Try.underlying31 hinfo hh rfl
    (fun j v hj => by
      cases j with
      | zero => rw [hn, ha]; simpa using hj
      | succ j => simp at hj)
    (by simp; omega) (fun v hv => by simp at hv; rw [hv]; rfl)
  refine ⟨_, this, ⟨_, setRow_heap _ _ _ _ _ _ hh, ?_, ?_⟩, fun n hn => below_setRow (Below.refl _ _) hn _⟩
  · simp
    omega
  · intro j hj
    obtain rfl : j = 0 := by omega
    rfl
theorem RepRow.bs {w : World} {b : Nat} (h : RepRow w b 128) : Bs w (some ⟨b, 0, none⟩) 128 (List.replicate 128 7) := by
  obtain ⟨cs, hh, hs, hc⟩ := h
  refine ⟨by simp, by decide, fun y hy => by rw [List.eq_of_mem_replicate hy]; omega, (fun h => by simp at h), fun y hy j hj => ?_⟩
  cases hy
  rw [add_none, cell_of_row _ _ _ _ _ _ hh, Nat.zero_add, hc j hj]
  rw [List.getD_eq_getElem?_getD, List.getElem?_replicate, if_pos hj]
  rfl
set_option maxHeartbeats 2000000 in
set_option maxRecDepth 100000 in
theorem repeat7 (zs : List Nat) (HZS : Hid (zs = List.replicate 128 7)) (w : World) (sb : Nat) (hsb : w.heap[sb]? = some (.cells #[.int .u8 7] 5 (0, 0))) :
    Calls Try.prog 23 #[.slice (some ⟨sb, 0, none⟩) 1 1, .int .i64 128] w fun e w' => ∃ b, e = .returned (.slice (some ⟨b, 0, none⟩) 128 128) ∧ w.heap.size ≤ b ∧ b < w'.heap.size ∧ Bs w' (some ⟨b, 0, none⟩) 128 zs ∧ Below w.heap.size w w' := by
  have HSB := hidy hsb
  clear hsb
  go_enter Try.func23, Try.ntmps23
  go_wp2_with fail
  refine (mul_c _).mono ?_
  rintro e w1 ⟨rfl, b1⟩
  have HB1 := hidy b1
  clear b1
  obtain ⟨cs, hrun, hs⟩ := mnz w1
  have hsl : sb < w.heap.size := (Array.getElem?_eq_some_iff.1 HSB.out).1
  have hb1 := HB1.out
  have hbA : Below w.heap.size w (w1.alloc (.cells cs 5)).drew.drew := ((hb1.alloc hb1.size (.cells cs 5)).drew).drew
  have hcell : (w1.alloc (.cells cs 5)).drew.drew.cell? ⟨sb, 0, none⟩ = some (.int .u8 7) := by
    rw [hbA.cell (p := ⟨sb, 0, none⟩) hsl, cell_of_row _ _ _ _ _ _ HSB.out]
    rfl
  obtain ⟨w2, hcp, hR, hbel⟩ := RepRow.first (w := (w1.alloc (.cells cs 5)).drew.drew) (b := w1.heap.size) (cs := cs) (heap_alloc_new _ _) hs ⟨sb, 0, none⟩ hcell rfl 3
  have HR := hidy hR
  have HBL : Hid (Below w.heap.size w w2) := hidy (hbA.trans (hbel _ hb1.size))
  have HLE := hidy hb1.size
  clear hR hbel hcell hbA hb1 hsl HB1
  have hs2 : (128 : Int) ≤ (cs.size : Int) := by omega
  go_wp2
  obtain ⟨b, hb⟩ : ∃ b, b = w1.heap.size := ⟨_, rfl⟩
  rw [← hb] at HR HLE ⊢
  clear hb hcp hrun
  go_loopw [10] (fun kv wr => ∃ k : Nat, kv = .int .i64 (k : Int) ∧ 1 ≤ k ∧ k ≤ 128 ∧ Hid (RepRow wr b k) ∧ Hid (Below w.heap.size w wr)) (fun kv _ => 128 - (intOf kv).toNat)
  case atStart => exact ⟨1, rfl, Nat.le_refl _, by omega, HR, HBL⟩
  case round =>
    obtain ⟨k, rfl, hk1, hk2, HRk, HBk⟩ := hrel
    by_cases hlt : k < 128
    · have hlt' : (k : Int) < 128 := by omega
      obtain ⟨m, hm⟩ : ∃ m, m = min k (128 - k) := ⟨_, rfl⟩
      obtain ⟨w3, hcp, hR3, hb3⟩ := RepRow.copy (w := wr.drew) (show RepRow wr.drew b k from HRk.out) hk1 hlt m hm 3
      have HR3 := hidy hR3
      have HB3 := hidy ((HBk.out.drew).trans (hb3 _ HLE.out))
      have hmin : ¬ ((128 : Int) < (k : Int)) := by omega
      have hne : ¬ (128 = k) := by omega
      have hle : (k : Int) ≤ 128 := by omega
      have hadd : IntKind.i64.wrap ((k : Int) + (m : Int)) = ((k + m : Nat) : Int) := by rw [IntKind.wrap_i64]; omega
      have HM := hidy hm
      clear hR3 hb3 hm
      go_wp2
      refine wp_region_noPanic ?_
      refine wp_region_held_drew (S := fun _ => True) (by kernel_rfl) trivial (fun hHeld => ?_)
      refine drawn_take (i := 0) (v := .int .i64 (k : Int)) (some 67) rfl rfl (by kernel_rfl) (by kernel_rfl) (by kernel_rfl) (fun _ _ _ h => h) (Or.inl ⟨by kernel_rfl, fun wq hw => by go_simp⟩) hHeld ?_
      simp only [Act.put, List.setIfInBounds_toArray, List.set_cons_succ, List.set_cons_zero]
      refine drawn_take (i := 1) (v := .slice (some ⟨b, 0, none⟩) 128 128) (some 68) rfl rfl (by kernel_rfl) (by kernel_rfl) (by kernel_rfl) (fun _ _ _ h => h) (Or.inl ⟨by kernel_rfl, fun wq hw => by go_simp⟩) hHeld ?_
      simp only [Act.put, List.setIfInBounds_toArray, List.set_cons_succ, List.set_cons_zero]
      refine drawn_take (i := 2) (v := .int .i64 (k : Int)) (some 69) rfl rfl (by kernel_rfl) (by kernel_rfl) (by kernel_rfl) (fun _ _ _ h => h) (Or.inl ⟨by kernel_rfl, fun wq hw => by go_simp⟩) hHeld ?_
      simp only [Act.put, List.setIfInBounds_toArray, List.set_cons_succ, List.set_cons_zero]
      refine drawn_take (i := 3) (v := .slice (some ⟨b, k, none⟩) (128 - k) (128 - k)) (some 70) rfl rfl (by kernel_rfl) (by kernel_rfl) (by kernel_rfl) (fun _ _ _ h => h) (Or.inl ⟨by kernel_rfl, fun wq hw => by go_simp⟩) hHeld ?_
      simp only [Act.put, List.setIfInBounds_toArray, List.set_cons_succ, List.set_cons_zero]
      refine drawn_take (i := 4) (v := .slice (some ⟨b, 0, none⟩) 128 128) (some 71) rfl rfl (by kernel_rfl) (by kernel_rfl) (by kernel_rfl) (fun _ _ _ h => h) (Or.inl ⟨by kernel_rfl, fun wq hw => by go_simp⟩) hHeld ?_
      simp only [Act.put, List.setIfInBounds_toArray, List.set_cons_succ, List.set_cons_zero]
      refine drawn_take (i := 5) (v := .int .i64 (k : Int)) (some 72) rfl rfl (by kernel_rfl) (by kernel_rfl) (by kernel_rfl) (fun _ _ _ h => h) (Or.inl ⟨by kernel_rfl, fun wq hw => by go_simp⟩) hHeld ?_
      simp only [Act.put, List.setIfInBounds_toArray, List.set_cons_succ, List.set_cons_zero]
      refine drawn_take (i := 6) (v := .slice (some ⟨b, 0, none⟩) k 128) (some 73) rfl rfl (by kernel_rfl) (by kernel_rfl) (by kernel_rfl) (fun _ _ _ h => h) (Or.inl ⟨by kernel_rfl, fun wq hw => by go_simp⟩) hHeld ?_
      simp only [Act.put, List.setIfInBounds_toArray, List.set_cons_succ, List.set_cons_zero]
      refine wpAnyH_ready (rs := [7]) (by kernel_rfl) (by simp) ?_
      refine rdy_val (i := 7) rfl rfl (some 74) rfl (.int .i64 (m : Int)) w3 (by go_simp) trivial (fun hHeld => ?_) rdy_nil
      simp only [Act.put, List.setIfInBounds_toArray, List.set_cons_succ, List.set_cons_zero]
      refine drawn_take (i := 8) (v := .int .i64 ((k + m : Nat) : Int)) (some 75) rfl rfl (by kernel_rfl) (by kernel_rfl) (by kernel_rfl) (fun _ _ _ h => h) (Or.inl ⟨by kernel_rfl, fun wq hw => by go_simp⟩) hHeld ?_
      simp only [Act.put, List.setIfInBounds_toArray, List.set_cons_succ, List.set_cons_zero]
      refine drawn_take (i := 9) (v := .int .i64 ((k + m : Nat) : Int)) (some 10) rfl rfl (by kernel_rfl) (by kernel_rfl) (by kernel_rfl) (fun _ _ _ h => h) (Or.inl ⟨by kernel_rfl, fun wq hw => by go_simp⟩) hHeld ?_
      simp only [Act.put, List.setIfInBounds_toArray, List.set_cons_succ, List.set_cons_zero]
      refine wpAnyH_done (by kernel_rfl) ?_ _
      refine NoPanic.normal ?_
      go_wp2
      exact ⟨⟨k + m, rfl, by omega, by rw [HM.out]; omega, HR3, HB3⟩, by have := HM.out; simp [intOf]; omega⟩
    · have hlt' : ¬ (k : Int) < 128 := by omega
      obtain rfl : k = 128 := by omega
      have HZ : Hid (Bs wr (some ⟨b, 0, none⟩) 128 zs) := hidy (by rw [HZS.out]; exact HRk.out.bs)
      have HLT : Hid (b < wr.heap.size) := hidy (by obtain ⟨cs, h, _⟩ := HRk.out; exact (Array.getElem?_eq_some_iff.1 h).1)
      go_wp2
      exact bodyPost_ret (v := .slice (some ⟨b, 0, none⟩) 128 128) (by simp [results, Try.results23, go_sem]) rfl ⟨b, rfl, HLE.out, HLT.out, HZ.out, HBk.out⟩
end Go.Proofs.Ytpiohhljcjobfaa

namespace Go.Proofs.Ytpiohhljcjobfaa
open Go.RowKit Go.Maps
set_option linter.unusedVariables false
set_option maxHeartbeats 1000000 in
theorem bytesEqual_same (w : World) (a b : Option Addr) (n ca cb : Nat) (zs : List Nat) (ha : Bs w a n zs) (hb : Bs w b n zs) :
    Calls Try.prog 15 #[.slice a n ca, .slice b n cb] w fun e w' => e = .returned (.bool true) ∧ Below w.heap.size w w' := by
  have h1 := ha.str (cap := ca)
  have h2 := hb.str (cap := cb)
  have HA := hidy ha
  have HB := hidy hb
  clear ha hb
  generalize strB zs = st at *
  go_enter Try.func15, Try.ntmps15
  go_wp2
  go_ret
  exact ⟨rfl, Below.refl _ _⟩
def nmA : ByteArray := ⟨#[97]⟩
set_option maxHeartbeats 2000000 in
set_option maxRecDepth 100000 in
theorem awake3_any (w : World) :
    Calls Try.prog 9 #[] w fun e w' => e = .returned (.bool true) ∧ Below w.heap.size w w' := by
  have hpn := fun (wx : World) (p : Option Addr) => run_eql_pointer_nil (P := Try.prog) wx 23 p (by kernel_rfl)
  obtain ⟨zs, hzs⟩ : ∃ zs, zs = List.replicate 128 7 := ⟨_, rfl⟩
  have HZ := hidy hzs
  clear hzs
  go_enter Try.func9, Try.ntmps9
  go_wp2_with fail
  refine (new_any _ 3 (by omega)).mono ?_
  rintro e w1 ⟨rfl, hD1, hb1, hs1⟩
  have HD1 := hidy hD1
  have HS1 := hidy hs1
  have HB1 := hidy hb1
  clear hD1 hs1 hb1
  go_wp2_with fail
  have hb1' : Below w1.heap.size w1 (w1.alloc (.cells #[.int .u8 7] 5)) := (Below.refl _ _).alloc (Nat.le_refl _) _
  have HB1' := hidy hb1'
  have HBA := hidy (HB1.out.trans (hb1'.mono HB1.out.size))
  clear hb1'
  refine (repeat7 zs HZ _ w1.heap.size (heap_alloc_new _ _)).mono ?_
  rintro e w2 ⟨b, rfl, hbge, hblt, hBs, hb2⟩
  obtain ⟨F0, hF0⟩ : ∃ F0 : Nat → Prop, F0 = fun k => w.heap.size ≤ k ∧ k < w.heap.size + 2 := ⟨_, rfl⟩
  rw [← hF0] at HD1
  have HD2 := hidy ((HD1.out.below HB1'.out).below hb2)
  have hge0 : ∀ k, F0 k → w.heap.size ≤ k := by intro k hk; rw [hF0] at hk; exact hk.1
  have hlt0 : ∀ k, F0 k → k < w2.heap.size := by
    intro k hk; rw [hF0] at hk
    have := hb2.size
    rw [World.size_alloc] at this
    have := HS1.out
    have := hk.2
    omega
  have hBF : BsF F0 w2 (some ⟨b, 0, none⟩) 128 zs := ⟨hBs, fun x hx _ hF => by
    cases hx
    rw [hF0] at hF
    rw [World.size_alloc] at hbge
    have := HS1.out
    have h2 : b < w.heap.size + 2 := hF.2
    omega⟩
  have HBF := hidy hBF
  have HGE := hidy hge0
  have HLT := hidy hlt0
  have HB2 := hidy (HBA.out.trans (hb2.mono HBA.out.size))
  clear hbge hblt hBs hb2 hF0 hge0 hlt0 hBF HS1 HBA HB1' HD1 HB1
  go_wp2_with fail
  refine (write_new _ _ F0 0 (fun _ => []) 3 (-1) HD2.out nmA (by decide) 0 0 (hidy rfl) rfl b 0 128 zs HBF.out (by omega) (by omega) (by omega) (by omega) (by decide) (by omega) (by omega)).mono ?_
  rintro e w3 ⟨rfl, F3, hD3, hG3⟩
  obtain ⟨M3, hM3⟩ : ∃ M3, M3 = upd (fun _ => []) nmA.data.toList ([] ++ [zeroE.wrote zs]) := ⟨_, rfl⟩
  have HD3 : Hid (DiskOf w3 _ F3 1 M3 2 (-1)) := hidy (by rw [hM3]; exact hD3)
  have HM3 : Hid (M3 nmA.data.toList = [zeroE.wrote zs]) := hidy (by rw [hM3, upd_same]; rfl)
  have HBF3 := hidy (HBF.out.gr hG3)
  have HLT3 := hidy (hG3.lt HLT.out)
  have HGE3 := hidy (hG3.ge HB2.out.size HGE.out)
  have HB3 := hidy (HB2.out.trans (hG3.1.below HB2.out.size HGE.out))
  clear hD3 hG3 hM3 HD2 HBF HGE HLT HB2
  go_wp2_with fail
  refine (sync_disk _ _ F3 1 M3 2 (-1) HD3.out nmA (by decide) (by rw [HM3.out]; simp) (by omega) (by omega) (by omega)).mono ?_
  rintro e w4 ⟨rfl, hD4, hG4⟩
  obtain ⟨M4, hM4⟩ : ∃ M4, M4 = upd M3 nmA.data.toList ((M3 nmA.data.toList).map Ext.synced) := ⟨_, rfl⟩
  have HD4 : Hid (DiskOf w4 _ F3 1 M4 2 (-1)) := hidy (by rw [hM4]; exact hD4)
  have HM4 : Hid (M4 nmA.data.toList = [(zeroE.wrote zs).synced]) := hidy (by rw [hM4, upd_same, HM3.out]; rfl)
  have HBF4 := hidy (HBF3.out.gr hG4)
  have HLT4 := hidy (hG4.lt HLT3.out)
  have HB4 := hidy (HB3.out.trans (hG4.1.below HB3.out.size HGE3.out))
  clear hD4 hG4 hM4 HD3 HM3 HBF3 HLT3 HB3
  go_wp2_with fail
  refine (crash_disk _ _ F3 1 M4 2 (-1) HD4.out HLT4.out none 0 0 (fun _ _ => 0) (firstKept_none _ none 0)).mono ?_
  rintro e w5 ⟨rfl, hD5, hG5⟩
  obtain ⟨M5, hM5⟩ : ∃ M5 : List UInt8 → List Ext, M5 = fun s => fellL (fun _ => 0) (M4 s) := ⟨_, rfl⟩
  have HD5 : Hid (DiskOf w5 _ F3 1 M5 2 (-1)) := hidy (by rw [hM5]; exact hD5)
  have HM5 : Hid (M5 nmA.data.toList = [(zeroE.wrote zs).synced]) := hidy (by rw [hM5]; show fellL (fun _ => 0) (M4 nmA.data.toList) = _; rw [HM4.out]; rfl)
  have HBF5 := hidy (HBF4.out.gr hG5)
  have HB5 := hidy (HB4.out.trans (hG5.1.below HB4.out.size HGE3.out))
  clear hD5 hG5 hM5 HD4 HM4 HBF4 HLT4 HB4
  go_wp2_with fail
  refine (diskRead_some _ _ F3 1 M5 2 (-1) HD5.out nmA (by decide) 0 1 0 (hidy (by rw [HM5.out]; rfl)) (by omega) rfl zs (zeroE.wrote zs).synced (hidy (by rw [HM5.out]; rfl)) (hidy (by simp [Ext.synced, Ext.wrote, Ext.rd]))).mono ?_
  rintro e w6 ⟨b6, rfl, _, hB6, hb6⟩
  have HB6 := hidy hB6
  have HBb := hidy (HBF5.out.1.below hb6)
  have HBE := hidy (HB5.out.trans (hb6.mono HB5.out.size))
  clear hB6 hb6
  go_wp2_with fail
  refine (bytesEqual_same _ _ _ 128 128 128 zs HB6.out HBb.out).mono ?_
  rintro e w7 ⟨rfl, b7⟩
  have HF := hidy (HBE.out.trans (b7.mono HBE.out.size))
  clear b7
  go_wp2
  go_ret
  exact ⟨rfl, HF.out⟩
end Go.Proofs.Ytpiohhljcjobfaa
