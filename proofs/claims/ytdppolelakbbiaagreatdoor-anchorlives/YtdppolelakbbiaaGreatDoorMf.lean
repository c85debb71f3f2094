/- The walks of crc.Put and of the document's Put: whatever number and width, the bytes of the number lie in new memory. -/
import Derived.Test.YtdppolelakbbiaaGreatDoorChecked
import Derived.WalkKit
import Derived.WalkLawsBesides
import Derived.KernelRfl
import Derived.Test.YtdppolelakbbiaaGreatDoorMa
import Derived.Laws.AppendOwnNone
namespace Go.Proofs.YtdppolelakbbiaaGreatDoor
open Go.RowKit
set_option linter.unusedVariables false
set_option maxHeartbeats 1000000 in
theorem put_any (n : Nat) (wd : Int) (k : Nat) (w : World) (hn : n < 18446744073709551616) (hk : (wd < 0 ∧ k = 0) ∨ (0 ≤ wd ∧ wd ≤ 8 ∧ wd = k) ∨ (8 < wd ∧ k = 8)) :
  Calls Tryz.prog 86 #[.int .u64 n, .int .i64 wd] w fun e w' => e = .returned (.slice (some ⟨w.heap.size, 0, none⟩) k k) ∧ w'.ownsRow w.heap.size 5 1 (.slice (some ⟨w.heap.size, 0, none⟩) k k) k (vb (putB n k)) ∧ Below w.heap.size w w' := by
 obtain ⟨i0, hi, hz0, hz1, hz2⟩ := info_parts Tryz.info5
 have h8 : k ≤ 8 := by omega
 rcases hk with ⟨c1, c2⟩ | ⟨c1, c2, rfl⟩ | ⟨c1, c2⟩
 all_goals
  have hkk : Hid _ := c2
  clear c2
  try have hneg : ¬ wd < 0 := by omega
  try have hneg2 : ¬ wd < 8 := by omega
  go_enter Tryz.func86, Tryz.ntmps86
  go_wp2_with (at_make; refine wpList_make_full _ rfl _ _ 28 rfl w.heap.size 5 i0 (.int .u8 0) 1 Tryz.underlying28 hi hz0 hz1 _ _ _ _ k rfl rfl (by have := hkk.out; omega) (by have := hkk.out; omega) (by rw [hz2]; omega) (by unfold maxLen; omega) (Nat.le_refl _) ?_; intro w1 hown1 hgrow1)
  go_loopw [0, 6] (fun nv iv wr => ∃ (m nj : Nat) (suf : List Nat), nv = .int .u64 nj ∧ iv = .int .i64 ((m : Int) - 1) ∧ m ≤ k ∧ nj < 18446744073709551616 ∧ putB nj m ++ suf = putB n k ∧
    wr.ownsRow w.heap.size 5 1 (Value.slice (some { block := w.heap.size, off := 0 }) k k) k (List.replicate m (.int .u8 0) ++ vb suf) ∧ Below w.heap.size w wr)
   (fun _ iv _ => (intOf iv + 1).toNat)
  case atStart =>
   refine ⟨k, n, [], rfl, congrArg (Value.int .i64) (by have := hkk.out; omega), Nat.le_refl _, hn, by simp, ?_, (Below.refl _ _).grown hgrow1 (Nat.le_refl _) (by simp)⟩
   have e : (madeCells (Value.int IntKind.u8 0).cells (k * 1)).toList = List.replicate k (Value.int .u8 0) := by rw [Nat.mul_one]; exact toList_madeCells_one _ _
   rw [e] at hown1
   simpa [vb] using hown1
  case round =>
   obtain ⟨m, nj, suf, rfl, rfl, hm, hnj, hput, hown, hbel⟩ := hrel
   have hput1 : Hid (_ = _) := hput
   clear hput
   by_cases hm0 : 0 < m
   ·
    obtain ⟨m', rfl⟩ : ∃ m', m = m' + 1 := ⟨m - 1, by omega⟩
    have hfz := hown.frozenAt m'
    have hce := hown.cellAt m' (by omega)
    rw [List.getElem?_append_left (by simp), List.getElem?_replicate_of_lt (by omega)] at hce
    go_wp2
    go_roundw
    case rel =>
     have hst := hown.stored m' (.int .u8 ((nj % 256 : Nat) : Int))
     rw [put_set] at hst
     refine ⟨m', nj / 256, (nj % 256) :: suf, by go_num, rfl, by omega, by omega, ?_, hst.1, hbel.setCell (by simp) _⟩
     rw [← hput1.out, putB]; simp
    case measure => simp [intOf]
   ·
    obtain rfl : m = 0 := by omega
    go_wp2
    go_ret
    have := hput1.out
    simp only [putB, List.nil_append] at this
    subst this
    exact ⟨rfl, by simpa using hown, hbel⟩
set_option maxHeartbeats 1000000 in
theorem refPut_any (n : Nat) (wd : Int) (k : Nat) (w : World) (hn : n < 18446744073709551616) (hk : (wd < 0 ∧ k = 0) ∨ (0 ≤ wd ∧ wd ≤ 8 ∧ wd = k) ∨ (8 < wd ∧ k = 8)) :
  Calls Tryz.prog 91 #[.int .u64 n, .int .i64 wd] w fun e w' => e = .returned (.slice (some ⟨w.heap.size, 0, none⟩) k k) ∧ w'.ownsRow w.heap.size 5 1 (.slice (some ⟨w.heap.size, 0, none⟩) k k) k (vb (putB n k)) ∧ Below w.heap.size w w' := by
 obtain ⟨i0, hi, hz0, hz1, hz2⟩ := info_parts Tryz.info5
 have h8 : k ≤ 8 := by omega
 rcases hk with ⟨c1, c2⟩ | ⟨c1, c2, rfl⟩ | ⟨c1, c2⟩
 all_goals
  have hkk : Hid _ := c2
  clear c2
  try have hneg : ¬ wd < 0 := by omega
  try have hneg2 : ¬ wd < 8 := by omega
  go_enter Tryz.func91, Tryz.ntmps91
  go_wp2_with (at_make; refine wpList_make_full _ rfl _ _ 28 rfl w.heap.size 5 i0 (.int .u8 0) 1 Tryz.underlying28 hi hz0 hz1 _ _ _ _ k rfl rfl (by have := hkk.out; omega) (by have := hkk.out; omega) (by rw [hz2]; omega) (by unfold maxLen; omega) (Nat.le_refl _) ?_; intro w1 hown1 hgrow1)
  go_loopw [0, 7] (fun nv iv wr => ∃ (m nj : Nat) (suf : List Nat), nv = .int .u64 nj ∧ iv = .int .i64 ((m : Int) - 1) ∧ m ≤ k ∧ nj < 18446744073709551616 ∧ putB nj m ++ suf = putB n k ∧
    wr.ownsRow w.heap.size 5 1 (Value.slice (some { block := w.heap.size, off := 0 }) k k) k (List.replicate m (.int .u8 0) ++ vb suf) ∧ Below w.heap.size w wr)
   (fun _ iv _ => (intOf iv + 1).toNat)
  case atStart =>
   refine ⟨k, n, [], rfl, congrArg (Value.int .i64) (by have := hkk.out; omega), Nat.le_refl _, hn, by simp, ?_, (Below.refl _ _).grown hgrow1 (Nat.le_refl _) (by simp)⟩
   have e : (madeCells (Value.int IntKind.u8 0).cells (k * 1)).toList = List.replicate k (Value.int .u8 0) := by rw [Nat.mul_one]; exact toList_madeCells_one _ _
   rw [e] at hown1
   simpa [vb] using hown1
  case round =>
   obtain ⟨m, nj, suf, rfl, rfl, hm, hnj, hput, hown, hbel⟩ := hrel
   have hput1 : Hid (_ = _) := hput
   clear hput
   by_cases hm0 : 0 < m
   ·
    obtain ⟨m', rfl⟩ : ∃ m', m = m' + 1 := ⟨m - 1, by omega⟩
    have hfz := hown.frozenAt m'
    have hce := hown.cellAt m' (by omega)
    rw [List.getElem?_append_left (by simp), List.getElem?_replicate_of_lt (by omega)] at hce
    go_wp2
    go_roundw
    case rel =>
     have hst := hown.stored m' (.int .u8 ((nj % 256 : Nat) : Int))
     rw [put_set] at hst
     refine ⟨m', nj / 256, (nj % 256) :: suf, by go_num, rfl, by omega, by omega, ?_, hst.1, hbel.setCell (by simp) _⟩
     rw [← hput1.out, putB]; simp
    case measure => simp [intOf]
   ·
    obtain rfl : m = 0 := by omega
    go_wp2
    go_ret
    have := hput1.out
    simp only [putB, List.nil_append] at this
    subst this
    exact ⟨rfl, by simpa using hown, hbel⟩
end Go.Proofs.YtdppolelakbbiaaGreatDoor

namespace Go.Proofs.YtdppolelakbbiaaGreatDoor
open Go.RowKit
set_option linter.unusedVariables false
theorem refGet_step (l : List Nat) (k : Nat) (hk : k < l.length) (h : ∀ x ∈ l, x < 256) (h8 : l.length ≤ 8) :
  IntKind.u64.wrap (IntKind.u64.wrap (((getB 0 (List.take k l) : Nat) : Int) * 256) + IntKind.u64.wrap ((l[k]?.getD 0 : Nat) : Int)) = ((getB 0 (l.take (k + 1)) : Nat) : Int) := by
 have h1 := getB_take_lt l k h (by omega)
 have h2 := getD_mem_lt l k 256 (by omega) h
 rw [take_succ_getD l k hk, getB_snoc]
 simp only [IntKind.wrap_u64]
 omega
set_option maxHeartbeats 1000000 in
theorem get_some (b off len cap : Nat) (zs : List Nat) (w : World) (hz : ∀ x ∈ zs, x < 256) (hlen : len = zs.length) (h0 : 0 < len) (h8 : len ≤ 8)
  (hc : ∀ j, j < len → w.cell? ⟨b, off + j, none⟩ = some (.int .u8 ((zs.getD j 0 : Nat) : Int))) :
  Calls Tryz.prog 116 #[.slice (some ⟨b, off, none⟩) len cap] w fun e w' => e = .returned (.tuple #[.int .u64 (getB 0 zs : Nat), .bool true]) ∧ w' = w := by
 have HL : Hid (len = zs.length) := hlen
 clear hlen
 have h1 : ((len : Int) == 0) = false := beq_eq_false_iff_ne.2 (by omega)
 have h2 : decide (8 < (len : Int)) = false := by simp; omega
 go_enter Tryz.func116, Tryz.ntmps116
 go_wp2
 go_loop [4, 17] (fun nv iv => ∃ k : Nat, k ≤ len ∧ iv = .int .i64 k ∧ nv = .int .u64 (getB 0 (zs.take k) : Nat)) (fun _ iv => len - (intOf iv).toNat)
 case atStart => exact ⟨0, Nat.zero_le _, rfl, rfl⟩
 case round =>
  obtain ⟨k, hk, rfl, rfl⟩ := hrel
  by_cases hlt : k < len
  ·
   have hck := hc k hlt
   go_wp2
   go_round
   case rel => exact ⟨k + 1, by omega, by go_num, congrArg (Value.int .u64) (get_step zs k (by rw [← HL.out]; exact hlt) hz (by rw [← HL.out]; exact h8))⟩
   case measure => simp [intOf]; omega
  ·
   go_wp2
   go_ret2
   have e : zs.take k = zs := List.take_of_length_le (by rw [← HL.out]; omega)
   rw [e]
   exact ⟨rfl, rfl⟩
set_option maxHeartbeats 1000000 in
theorem refGet_some (b off len cap : Nat) (zs : List Nat) (w : World) (hz : ∀ x ∈ zs, x < 256) (hlen : len = zs.length) (h0 : 0 < len) (h8 : len ≤ 8)
  (hc : ∀ j, j < len → w.cell? ⟨b, off + j, none⟩ = some (.int .u8 ((zs.getD j 0 : Nat) : Int))) :
  Calls Tryz.prog 117 #[.slice (some ⟨b, off, none⟩) len cap] w fun e w' => e = .returned (.tuple #[.int .u64 (getB 0 zs : Nat), .bool true]) ∧ w' = w := by
 have HL : Hid (len = zs.length) := hlen
 clear hlen
 have h1 : decide ((len : Int) < 1) = false := by simp; omega
 have h2 : decide (8 < (len : Int)) = false := by simp; omega
 go_enter Tryz.func117, Tryz.ntmps117
 go_wp2
 go_loop [4, 17] (fun nv iv => ∃ k : Nat, k ≤ len ∧ iv = .int .i64 k ∧ nv = .int .u64 (getB 0 (zs.take k) : Nat)) (fun _ iv => len - (intOf iv).toNat)
 case atStart => exact ⟨0, Nat.zero_le _, rfl, rfl⟩
 case round =>
  obtain ⟨k, hk, rfl, rfl⟩ := hrel
  by_cases hlt : k < len
  ·
   have hck := hc k hlt
   go_wp2
   go_round
   case rel => exact ⟨k + 1, by omega, by go_num, congrArg (Value.int .u64) (refGet_step zs k (by rw [← HL.out]; exact hlt) hz (by rw [← HL.out]; exact h8))⟩
   case measure => simp [intOf]; omega
  ·
   go_wp2
   go_ret2
   have e : zs.take k = zs := List.take_of_length_le (by rw [← HL.out]; omega)
   rw [e]
   exact ⟨rfl, rfl⟩
end Go.Proofs.YtdppolelakbbiaaGreatDoor

namespace Go.Proofs.YtdppolelakbbiaaGreatDoor
open Go.RowKit
set_option linter.unusedVariables false
theorem app_noneA {P : Program} {w : World} (base : Nat) (t ty e : TypeId) (i : TypeInfo) (size : Nat) (ht : P.underlying t = some (.slice e)) (hi : P.info? e = some i)
  (v : Value) (n c : Nat) (xs : List Value) (hown : w.ownsRow base e size v n xs) : (Builtin.append_ #[t, t] ty #[v, .slice none 0 c]).run P w = .ok v w := by
 rcases hown.2 with ⟨rfl, rfl⟩ | ⟨g, cap, cur, rfl, _, _, hnc, _⟩
 ·
  simp [Builtin.append_, run_underlying ht, sizeOf, typeInfo, hi, Builtin.lenOf, Builtin.firstCells]
 ·
  simp [Builtin.append_, run_underlying ht, sizeOf, typeInfo, hi, Builtin.lenOf, Builtin.firstCells, hnc, storeCells]
theorem appAny {P : Program} (w : World) (base : Nat) (t ty e : TypeId) (i : TypeInfo) (z : Value) (size bytes : Nat) (ht : P.underlying t = some (.slice e)) (hi : P.info? e = some i) (hz : i.zero = some z)
  (hsize : i.size = size) (hby : i.bytes = bytes) (hzs : z.cells.size = size) (hsz : 0 < size)
  (v : Value) (n : Nat) (xs : List Value) (hown : w.ownsRow base e size v n xs) (hbase : base ≤ w.heap.size)
  (aa : Option Addr) (m c : Nat) (news : List Value) (hl : news.length = m * size) (h0 : aa = none → m = 0) (hnews : ∀ x, aa = some x → ∀ j u, news[j]? = some u → w.cell? (x.add j) = some u) (h1 : ∀ u ∈ news, u.oneCell' = true)
  (h63 : n + m ≤ maxLen) (hbytes : (n + m) * bytes ≤ 140737488355328) :
  ∃ v' w', (Builtin.append_ #[t, t] ty #[v, .slice aa m c]).run P w = .ok v' w' ∧ w'.ownsRow base e size v' (n + m) (xs ++ news) ∧ w.grownBy w' v.ownBlock := by
 cases aa with
 | none =>
  obtain rfl := h0 rfl
  have hn : news = [] := by
   cases news with
   | nil => rfl
   | cons _ _ => simp at hl
  subst hn
  exact ⟨v, w, app_noneA base t ty e i size ht hi v n c xs hown, by simpa using hown, ⟨rfl, rfl, rfl, Nat.le_refl _, fun _ _ _ => rfl⟩⟩
 | some x =>
  obtain ⟨v', w', r1, r2, r3, _⟩ := run_append_own (P := P) w base t ty e i z size bytes ht hi hz hsize hby hzs hsz v n xs hown x m c news hl (hnews x rfl) h1 h63 hbytes hbase
  exact ⟨v', w', r1, r2, r3⟩
theorem wpList_app_runA {P : Program} {w w' : World} {ops : Array Oper} {rest : List Oper} {o : Oper} {a : Act} {Q : Exit → Act → World → Prop} (hgd : o.guard = none) (s x : Operand) (t ty : TypeId)
  (ho : o.op = .call { callee := .builtin .append, args := #[s, x], argTypes := #[t, t] }) (hty : o.type = ty) (v vx v' : Value) (hs : a.eval s = v) (hx : a.eval x = vx) (hr : (Builtin.append_ #[t, t] ty #[v, vx]).run P w = .ok v' w')
  (h : wpList P ops Q rest (a.put o.dst v') w') : wpList P ops Q (o :: rest) a w :=
 wpList_plain hgd fun _ hK => by
  subst hty
  unfold Oper.wp execOp
  simp only [ho, resolve, invoke, builtin, Sem.run_bind, Sem.run_pure, Result.andThen_ok, List.map_toArray, List.map_cons, List.map_nil, hs, hx, hr]
  exact hK _ _ h
end Go.Proofs.YtdppolelakbbiaaGreatDoor
