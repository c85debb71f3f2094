/- scrub: the groups of a new disk. -/
import Derived.Test.YtidlogeeophogaaDoorScB
import Derived.Test.YtidlogeeophogaaDoorDrawn
namespace Go.Proofs.YtidlogeeophogaaDoor
open Go.RowKit Go.Maps
set_option linter.unusedVariables false

def scA (s : ByteArray) : ByteArray := s ++ ⟨#[46, 97]⟩
def scB (s : ByteArray) : ByteArray := s ++ ⟨#[46, 98]⟩

set_option maxHeartbeats 1000000 in
theorem withPair_any (w : World) (base : Nat) (v : Value) (n : Nat) (xs : List Value) (hown : w.ownsRow base 32 4 v n xs) (hle : base ≤ w.heap.size) (hn : n ≤ 500) (s : ByteArray) (cnt : Nat) (hcnt : cnt ≤ 500) :
    Calls Tryd.prog 31 #[v, .string s, .int .i64 (cnt : Int)] w fun e w' => ∃ v', e = .returned v' ∧ w'.ownsRow base 32 4 v' (n + cnt) (xs ++ grps 1 s 0 cnt) ∧ Below base w w' := by
  have HW := hidn (withEach_any w base v n xs hown hle hn 1 s 0 0 cnt hcnt)
  clear hown hle
  go_enter Tryd.func31, Tryd.ntmps31
  go_wp2_with fail
  refine HW.out.mono ?_
  rintro e w1 ⟨v1, rfl, h1, h2⟩
  have H1 := hidn (And.intro h1 h2)
  clear h1 h2
  go_wp2
  go_ret
  exact ⟨_, rfl, H1.out.1, H1.out.2⟩

set_option maxHeartbeats 1000000 in
theorem scHalves_any (w : World) (s : ByteArray) (hs : s.size ≤ 1000) :
    Calls Tryd.prog 56 #[.string s] w fun e w' => e = .returned (.agg #[.string (scA s), .string (scB s)]) ∧ Below w.heap.size w w' := by
  have ha : s ++ ⟨#[46, 97]⟩ = scA s := rfl
  have hb : s ++ ⟨#[46, 98]⟩ = scB s := rfl
  have h1 : s.size + 2 ≤ 1002 := by omega
  go_enter Tryd.func56, Tryd.ntmps56
  go_wp2
  exact bodyPost_ret (v := .agg #[.string (scA s), .string (scB s)]) (results_cell_row rfl _ _ w.heap.size 84 _ (0, 0) _ rfl (heap_alloc_new _ _) Tryd.underlying84 rfl (by kernel_rfl)) rfl ⟨rfl, (Below.refl _ _).alloc (Nat.le_refl _) _⟩

set_option maxHeartbeats 1000000 in
theorem scMade (w : World) (d : Nat) (F : Nat → Prop) (N : Nat) (M : List UInt8 → List Ext) (free fuse : Int) (h : DiskOf w d F N M free fuse) (hM0 : M [] = []) :
    Calls Tryd.prog 22 #[.pointer (some ⟨d, 0, none⟩)] w fun e w' => e = .returned (.bool true) ∧ Below w.heap.size w w' := by
  have hn : Hid ((0 : Nat) = (M (ByteArray.mk #[]).data.toList).length) := hidn (by show 0 = (M []).length; rw [hM0]; rfl)
  clear hM0
  go_enter Tryd.func22, Tryd.ntmps22
  go_wp2_with fail
  refine (diskRead_none _ d F N M free fuse h ⟨#[]⟩ (by decide) 0 0 hn (Or.inr (by omega))).mono ?_
  rintro e w1 ⟨rfl, hb⟩
  go_wp2
  go_ret
  exact ⟨rfl, hb⟩

set_option maxHeartbeats 1000000 in
theorem scCount_nil (w : World) : Calls Tryd.prog 29 #[.slice none 0 0] w fun e w' => e = .returned (.bool true) ∧ w' = w := by
  go_enter Tryd.func29, Tryd.ntmps29
  go_wp2_with fail
  go_loopw [7] (fun iv wr => iv = .int .i64 0 ∧ w = wr) (fun _ _ => 0)
  case atStart => exact ⟨rfl, rfl⟩
  case round =>
    obtain ⟨rfl, rfl⟩ := hrel
    go_wp2
    go_ret
    exact ⟨rfl, rfl⟩

set_option maxHeartbeats 2000000 in
theorem scExtents_none (w : World) (d : Nat) (F : Nat → Prop) (N : Nat) (free fuse : Int) (h : DiskOf w d F N (fun _ => []) free fuse) (s : ByteArray) (hs : s.size ≤ 1000) :
    Calls Tryd.prog 32 #[.pointer (some ⟨d, 0, none⟩), .string s] w fun e w' => e = .returned (.int .i64 1) ∧ Below w.heap.size w w' := by
  have HD := hidn h
  have hsa : (scA s).size ≤ maxLen := by unfold scA maxLen; rw [ByteArray.size_append]; show s.size + 2 ≤ _; omega
  have hsb : (scB s).size ≤ maxLen := by unfold scB maxLen; rw [ByteArray.size_append]; show s.size + 2 ≤ _; omega
  obtain ⟨z, hz⟩ : ∃ z : Nat, z = 0 := ⟨_, rfl⟩
  have HE := hidn (fun (wx : World) (hx : Below w.heap.size w wx) (t : ByteArray) (ht : t.size ≤ maxLen) => extents_disk wx d F N (fun _ => []) free fuse (HD.out.below hx) t ht z (hidn (by rw [hz]; rfl)))
  have z1 : (if (1 : Int) < (z : Int) then (z : Int) else 1) = 1 := by split <;> omega
  have z2 : max (1 : Int) (z : Int) = 1 := by omega
  have z3 : (if (z : Int) < 1 then (1 : Int) else (z : Int)) = 1 := by split <;> omega
  clear hz
  clear h
  go_enter Tryd.func32, Tryd.ntmps32
  go_wp2_with fail
  refine (scHalves_any _ s hs).mono ?_
  rintro e w1 ⟨rfl, hb1⟩
  have HB1 := hidn hb1
  obtain ⟨na, hna⟩ : ∃ na, na = scA s := ⟨_, rfl⟩
  obtain ⟨nb, hnb⟩ : ∃ nb, nb = scB s := ⟨_, rfl⟩
  rw [← hna] at hsa
  rw [← hnb] at hsb
  rw [← hna, ← hnb]
  clear hb1 hna hnb
  have hi0 : ∀ wx : World, (Instr.index 84 (.agg #[.string na, .string nb]) (.int .i64 0)).run Tryd.prog wx = .ok (.string na) wx := fun wx => by kernel_rfl
  have hi1 : ∀ wx : World, (Instr.index 84 (.agg #[.string na, .string nb]) (.int .i64 1)).run Tryd.prog wx = .ok (.string nb) wx := fun wx => by kernel_rfl
  go_wp2_with fail
  go_loopw [5, 10] (fun mv iv wr => ∃ k : Nat, k ≤ 2 ∧ iv = .int .i64 (k : Int) ∧ mv = .int .i64 1 ∧ Hid (Below w.heap.size w wr)) (fun _ iv _ => 2 - (intOf iv).toNat)
  case atStart => exact ⟨0, by omega, rfl, rfl, HB1⟩
  case round =>
    clear HB1
    obtain ⟨k, hk, rfl, rfl, HB⟩ := hrel
    by_cases hlt : k < 2
    · have hkk : k = 0 ∨ k = 1 := by omega
      rcases hkk with rfl | rfl
      · go_wp2_with fail
        refine (HE.out _ HB.out na hsa).mono ?_
        rintro e w2 ⟨rfl, rfl⟩
        go_wp2
        go_roundw
        case rel => exact ⟨1, by omega, by first | rfl | go_num | simp, by first | rfl | trivial, HB⟩
        case measure => simp [intOf]
      · go_wp2_with fail
        refine (HE.out _ HB.out nb hsb).mono ?_
        rintro e w2 ⟨rfl, rfl⟩
        go_wp2
        go_roundw
        case rel => exact ⟨2, by omega, by first | rfl | go_num | simp, by first | rfl | trivial, HB⟩
        case measure => simp [intOf]
    · obtain rfl : k = 2 := by omega
      go_wp2
      go_ret
      exact ⟨rfl, HB.out⟩

def scM : ByteArray := ⟨#[109]⟩ ++ ⟨(Lib.decDigits 1).toArray⟩
def scT : ByteArray := ⟨#[116]⟩ ++ ⟨(Lib.decDigits 1).toArray⟩
def scW : ByteArray := ⟨#[119]⟩ ++ ⟨(Lib.decDigits 1).toArray⟩

theorem sc_sizes : scM.size ≤ 100 ∧ scT.size ≤ 100 ∧ scW.size ≤ 100 := by decide +kernel

set_option maxHeartbeats 1000000 in
theorem scNames (w : World) : Calls Tryd.prog 30 #[.int .i64 ((1 : Nat) : Int)] w fun e w' => e = .returned (.tuple #[.string scM, .string scT]) ∧ w' = w := by
  obtain ⟨k, hk⟩ : ∃ k : Nat, k = 1 := ⟨_, rfl⟩
  have hI := Tryd.strconv_Itoa_small k (by omega) w
  have m1 : (if (k : Int) < 0 then (0 : Int) else (k : Int)) = (k : Int) := by split <;> omega
  have m2 : max (k : Int) 0 = (k : Int) := by omega
  have m3 : (if (0 : Int) < (k : Int) then (k : Int) else 0) = (k : Int) := by split <;> omega
  have hsz : (⟨(Lib.decDigits k).toArray⟩ : ByteArray).size ≤ 100 := by rw [hk]; decide +kernel
  have HM : Hid (scM = ⟨#[109]⟩ ++ ⟨(Lib.decDigits k).toArray⟩) := hidn (by rw [hk]; rfl)
  have HT : Hid (scT = ⟨#[116]⟩ ++ ⟨(Lib.decDigits k).toArray⟩) := hidn (by rw [hk]; rfl)
  rw [← hk]
  clear hk
  generalize (⟨(Lib.decDigits k).toArray⟩ : ByteArray) = ds at *
  go_enter Tryd.func30, Tryd.ntmps30
  go_wp2_with fail
  refine hI.mono ?_
  rintro e w1 ⟨rfl, rfl⟩
  go_wp2
  go_ret2
  rw [HM.out, HT.out]
  exact ⟨rfl, rfl⟩

set_option maxHeartbeats 1000000 in
theorem scName (w : World) : Calls Tryd.prog 33 #[.int .i64 ((1 : Nat) : Int)] w fun e w' => e = .returned (.string scW) ∧ w' = w := by
  obtain ⟨k, hk⟩ : ∃ k : Nat, k = 1 := ⟨_, rfl⟩
  have hI := Tryd.strconv_Itoa_small k (by omega) w
  have m1 : (if (k : Int) < 0 then (0 : Int) else (k : Int)) = (k : Int) := by split <;> omega
  have m2 : max (k : Int) 0 = (k : Int) := by omega
  have m3 : (if (0 : Int) < (k : Int) then (k : Int) else 0) = (k : Int) := by split <;> omega
  have hsz : (⟨(Lib.decDigits k).toArray⟩ : ByteArray).size ≤ 100 := by rw [hk]; decide +kernel
  have HM : Hid (scW = ⟨#[119]⟩ ++ ⟨(Lib.decDigits k).toArray⟩) := hidn (by rw [hk]; rfl)
  rw [← hk]
  clear hk
  generalize (⟨(Lib.decDigits k).toArray⟩ : ByteArray) = ds at *
  go_enter Tryd.func33, Tryd.ntmps33
  go_wp2_with fail
  refine hI.mono ?_
  rintro e w1 ⟨rfl, rfl⟩
  go_wp2
  go_ret
  rw [HM.out]
  exact ⟨rfl, rfl⟩

theorem callS1 {o : Oper} {a : Act} {w : World} {f : FuncId} {x : Nat} {vx : Value} {ts : Array TypeId} (ho : o.op = Op.call { callee := Callee.value (Operand.func f), args := #[.tmp x], argTypes := ts }) (hen : ∀ args w, (callFunc f args).run Tryd.prog w = .ok (.enter f args) w) (hx : a.eval (.tmp x) = vx) : (execOp a.eval o).run Tryd.prog w = .ok (.enter f #[vx]) w := by
  simp [go_sem, execOp, ho, resolve, invoke, hen]
  simpa [Act.eval] using hx

theorem callS3 {o : Oper} {a : Act} {w : World} {f : FuncId} {x y z : Nat} {vx vy vz : Value} {ts : Array TypeId} (ho : o.op = Op.call { callee := Callee.value (Operand.func f), args := #[.tmp x, .tmp y, .tmp z], argTypes := ts }) (hen : ∀ args w, (callFunc f args).run Tryd.prog w = .ok (.enter f args) w) (hx : a.eval (.tmp x) = vx) (hy : a.eval (.tmp y) = vy) (hz : a.eval (.tmp z) = vz) : (execOp a.eval o).run Tryd.prog w = .ok (.enter f #[vx, vy, vz]) w := by
  simp [go_sem, execOp, ho, resolve, invoke, hen]
  exact ⟨by simpa [Act.eval] using hx, by simpa [Act.eval] using hy, by simpa [Act.eval] using hz⟩
end Go.Proofs.YtidlogeeophogaaDoor
