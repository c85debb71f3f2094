/- The sum CRC-32C over plain numbers: a register's steps, that two at once are two, that no step loses anything. -/
import Derived.Test.YtdppolelakbbiaaGreatDoorMa
import Derived.Test.YtdppolelakbbiaaGreatDoorMf
import Derived.Laws.CopyOwn
import Derived.Lib.ConvBytes
import Derived.Deep.WholeRow
import Derived.Deep.RegionWith
namespace Go.Proofs.YtdppolelakbbiaaGreatDoor
open Go.RowKit
set_option linter.unusedVariables false
def crcP : Nat := 2197175160
def sh1 (r : Nat) : Nat := (r / 2) ^^^ (if r % 2 = 1 then crcP else 0)
def crcT (s : Nat) : Nat := if s = 0 then 0 else if s = 1 then 1098587580 else if s = 2 then 2197175160 else 3280807620
def sh2 (r : Nat) : Nat := (r / 4) ^^^ crcT (r % 4)
def sh8 (r : Nat) : Nat := sh2 (sh2 (sh2 (sh2 r)))
def crcR (r : Nat) (zs : List Nat) : Nat := zs.foldl (fun r c => sh8 (r ^^^ c)) r
def crcM (s : Nat) (zs : List Nat) : Nat := 4294967295 - crcR (4294967295 - s) zs
def iter {α : Type} (f : α → α) : Nat → α → α
 | 0, x => x
 | n + 1, x => f (iter f n x)
theorem sh1_lt {r : Nat} (h : r < 4294967296) : sh1 r < 4294967296 := by
 unfold sh1
 refine Nat.xor_lt_two_pow (n := 32) (by omega) ?_
 unfold crcP; split <;> omega
theorem xor_half (a b : Nat) : (a ^^^ b) / 2 = a / 2 ^^^ b / 2 := Nat.xor_div_two
theorem xor_even (a b : Nat) : (a ^^^ b) % 2 = (a + b) % 2 := by
 have h := Nat.testBit_xor a b 0
 simp only [Nat.testBit_zero] at h
 generalize a ^^^ b = c at h ⊢
 have ha : a % 2 = 0 ∨ a % 2 = 1 := by omega
 have hb : b % 2 = 0 ∨ b % 2 = 1 := by omega
 rcases ha with ha | ha <;> rcases hb with hb | hb <;> simp [ha, hb] at h <;> omega
theorem sh2_eq (r : Nat) : sh2 r = sh1 (sh1 r) := by
 have hs : r % 4 = 0 ∨ r % 4 = 1 ∨ r % 4 = 2 ∨ r % 4 = 3 := by omega
 rcases hs with hs | hs | hs | hs
 ·
  have e1 : r % 2 = 0 := by omega
  have e2 : r / 2 % 2 = 0 := by omega
  simp [sh2, sh1, hs, e1, e2, crcT, Nat.div_div_eq_div_mul]
 ·
  have e1 : r % 2 = 1 := by omega
  have e2 : r / 2 % 2 = 0 := by omega
  simp only [sh2, sh1, hs, e1, crcT, crcP, xor_half, xor_even, Nat.div_div_eq_div_mul]
  have e3 : (r / 2 + 2197175160) % 2 = 0 := by omega
  simp [e3]
 ·
  have e1 : r % 2 = 0 := by omega
  have e2 : r / 2 % 2 = 1 := by omega
  simp [sh2, sh1, hs, e1, e2, crcT, crcP, Nat.div_div_eq_div_mul]
 ·
  have e1 : r % 2 = 1 := by omega
  have e2 : r / 2 % 2 = 1 := by omega
  simp only [sh2, sh1, hs, e1, crcT, crcP, xor_half, xor_even, Nat.div_div_eq_div_mul]
  have e3 : (r / 2 + 2197175160) % 2 = 1 := by omega
  simp [e3, Nat.xor_assoc]
theorem sh2_lt {r : Nat} (h : r < 4294967296) : sh2 r < 4294967296 := by rw [sh2_eq]; exact sh1_lt (sh1_lt h)
theorem sh8_lt {r : Nat} (h : r < 4294967296) : sh8 r < 4294967296 := sh2_lt (sh2_lt (sh2_lt (sh2_lt h)))
theorem iter2_lt (k : Nat) {r : Nat} (h : r < 4294967296) : iter sh2 k r < 4294967296 := by
 induction k with
 | zero => exact h
 | succ k ih => exact sh2_lt ih
theorem iter1_lt (k : Nat) {r : Nat} (h : r < 4294967296) : iter sh1 k r < 4294967296 := by
 induction k with
 | zero => exact h
 | succ k ih => exact sh1_lt ih
theorem sh8_iter1 (r : Nat) : iter sh1 8 r = sh8 r := by simp [iter, sh8, sh2_eq]
theorem crcT_lt (s : Nat) : crcT s < 4294967296 := by unfold crcT; split; omega; split; omega; split <;> omega
theorem xor_lt32 {a b : Nat} (ha : a < 4294967296) (hb : b < 4294967296) : a ^^^ b < 4294967296 := Nat.xor_lt_two_pow (n := 32) ha hb
theorem crcR_lt (zs : List Nat) : ∀ {r : Nat}, r < 4294967296 → (∀ x ∈ zs, x < 256) → crcR r zs < 4294967296 := by
 induction zs with
 | nil => intro r h _; exact h
 | cons c t ih =>
  intro r h hz
  have hc : c < 256 := hz c (by simp)
  exact ih (sh8_lt (xor_lt32 h (by omega))) (fun x hx => hz x (by simp [hx]))
theorem crcR_snoc (r : Nat) (zs : List Nat) (c : Nat) : crcR r (zs ++ [c]) = sh8 (crcR r zs ^^^ c) := by simp [crcR]
theorem crcM_lt (s : Nat) (zs : List Nat) : crcM s zs < 4294967296 := by unfold crcM; omega
end Go.Proofs.YtdppolelakbbiaaGreatDoor

namespace Go.Proofs.YtdppolelakbbiaaGreatDoor
open Go.RowKit
set_option linter.unusedVariables false
def CrcTab (w : World) : Prop :=
 w.cell? ⟨0, 0, none⟩ = some (.int .u32 0) ∧ w.cell? ⟨0, 1, none⟩ = some (.int .u32 1098587580) ∧
 w.cell? ⟨0, 2, none⟩ = some (.int .u32 2197175160) ∧ w.cell? ⟨0, 3, none⟩ = some (.int .u32 3280807620)
theorem CrcTab.below {w w' : World} (h : CrcTab w) (hb : Below w.heap.size w w') : CrcTab w' := by
 obtain ⟨h0, h1, h2, h3⟩ := h
 exact ⟨(hb.cell (block_lt_of_cell h0)).trans h0, (hb.cell (block_lt_of_cell h1)).trans h1, (hb.cell (block_lt_of_cell h2)).trans h2, (hb.cell (block_lt_of_cell h3)).trans h3⟩
theorem and3 (r : Nat) (h : r < 4294967296) : bits .and .u32 (r : Int) 3 = ((r % 4 : Nat) : Int) := by
 have := bits_and_u .u32 rfl r 3 h (by decide)
 rw [show ((3 : Nat) : Int) = 3 from rfl] at this
 rw [this, show (3 : Nat) = 2 ^ 2 - 1 from rfl, Nat.and_two_pow_sub_one_eq_mod]
theorem and1 (r : Nat) (h : r < 4294967296) : bits .and .u32 (r : Int) 1 = ((r % 2 : Nat) : Int) := by
 have := bits_and_u .u32 rfl r 1 h (by decide)
 rw [show ((1 : Nat) : Int) = 1 from rfl] at this
 rw [this, show (1 : Nat) = 2 ^ 1 - 1 from rfl, Nat.and_two_pow_sub_one_eq_mod]
theorem sh2_walk (q s : Nat) (T : Int) (hq : q < 4294967296) (hs : q % 4 = s) (hT : T = ((crcT s : Nat) : Int)) : bits .xor .u32 ((q : Int) / 4) T = ((sh2 q : Nat) : Int) := by
 subst hT; subst hs
 exact bits_xor_u .u32 rfl (q / 4) (crcT (q % 4)) (by show q / 4 < 4294967296; omega) (crcT_lt _)
set_option maxHeartbeats 1000000 in
theorem shift_any (r : Nat) (w : World) (h : r < 4294967296) (hT : CrcTab w) :
  Calls Tryz.prog 145 #[.int .u32 r] w fun e w' => e = .returned (.int .u32 (sh8 r : Nat)) ∧ w' = w := by
 obtain ⟨c0, c1, c2, c3⟩ := hT
 go_enter Tryz.func145, Tryz.ntmps145
 go_wp2
 go_loop [0, 3] (fun rv iv => ∃ k : Nat, k ≤ 4 ∧ iv = .int .i64 k ∧ rv = .int .u32 (iter sh2 k r : Nat)) (fun _ iv => 4 - (intOf iv).toNat)
 case atStart => exact ⟨0, by omega, rfl, rfl⟩
 case round =>
  obtain ⟨k, hk, rfl, rfl⟩ := hrel
  by_cases hlt : k < 4
  ·
   have hq := iter2_lt k h
   have hstep : iter sh2 (k + 1) r = sh2 (iter sh2 k r) := rfl
   have HS : Hid (_ = _) := hstep
   clear hstep
   generalize iter sh2 k r = q at *
   have ha := and3 q hq
   have hs : q % 4 = 0 ∨ q % 4 = 1 ∨ q % 4 = 2 ∨ q % 4 = 3 := by omega
   rcases hs with hs | hs | hs | hs
   all_goals
    rw [hs] at ha
    have HQ : Hid (_ = _) := hs
    clear hs
    go_wp2
    go_round
    case rel => exact ⟨k + 1, by omega, by go_num, congrArg (Value.int .u32) (by rw [HS.out]; exact sh2_walk q _ _ hq HQ.out rfl)⟩
    case measure => simp [intOf]; omega
  ·
   go_wp2
   go_ret
   obtain rfl : k = 4 := by omega
   exact ⟨rfl, rfl⟩
theorem not32 (s : Nat) (h : s < 4294967296) : bits .xor .u32 IntKind.u32.max (s : Int) = ((4294967295 - s : Nat) : Int) := by
 have e : IntKind.u32.max = ((4294967295 : Nat) : Int) := rfl
 rw [e, bits_xor_u .u32 rfl 4294967295 s (by decide) h]
 congr 1
 have h1 : (BitVec.allOnes 32 ^^^ BitVec.ofNat 32 s).toNat = 4294967295 - s := by
  rw [BitVec.allOnes_xor, BitVec.toNat_not, BitVec.toNat_ofNat, Nat.mod_eq_of_lt (by omega : s < 2 ^ 32)]
 rw [BitVec.toNat_xor, BitVec.toNat_ofNat, Nat.mod_eq_of_lt (by omega : s < 2 ^ 32)] at h1
 exact h1
theorem xorb (r c : Nat) (hr : r < 4294967296) (hc : c < 256) : bits .xor .u32 (r : Int) (c : Int) = ((r ^^^ c : Nat) : Int) := by
 exact bits_xor_u .u32 rfl r c hr (by show c < 4294967296; omega)
set_option maxHeartbeats 1000000 in
theorem more_any (s : Nat) (a : Option Addr) (len cap : Nat) (zs : List Nat) (w : World) (hs : s < 4294967296) (hB : Bs w a len zs) (hT : CrcTab w) :
  Calls Tryz.prog 139 #[.int .u32 s, .slice a len cap] w fun e w' => e = .returned (.int .u32 (crcM s zs : Nat)) ∧ w' = w := by
 have hm : len ≤ 9223372036854775807 := hB.2.1
 go_enter Tryz.func139, Tryz.ntmps139
 go_wp2
 go_loop [5, 12] (fun rv iv => ∃ k : Nat, k ≤ len ∧ iv = .int .i64 k ∧ rv = .int .u32 (crcR (4294967295 - s) (zs.take k) : Nat)) (fun _ iv => len - (intOf iv).toNat)
 case atStart => exact ⟨0, Nat.zero_le _, rfl, congrArg (Value.int .u32) (not32 s hs)⟩
 case round =>
  obtain ⟨k, hk, rfl, rfl⟩ := hrel
  have hr : crcR (4294967295 - s) (zs.take k) < 4294967296 := crcR_lt _ (by omega) (fun x hx => hB.2.2.1 x (List.mem_of_mem_take hx))
  by_cases hlt : k < len
  ·
   have hstep : crcR (4294967295 - s) (zs.take (k + 1)) = sh8 (crcR (4294967295 - s) (zs.take k) ^^^ zs[k]?.getD 0) := by
    rw [take_succ_getD zs k (by rw [hB.1]; exact hlt), crcR_snoc]
   have HS : Hid (_ = _) := hstep
   clear hstep
   have hx : zs[k]?.getD 0 < 256 := getD_mem_lt zs k 256 (by omega) hB.2.2.1
   obtain ⟨b, off, rfl, hb, hc⟩ := hB.pos (by omega)
   have hck := hc k hlt
   clear hc hb
   rw [List.getD_eq_getElem?_getD] at hck
   generalize zs[k]?.getD 0 = c at *
   generalize crcR (4294967295 - s) (zs.take k) = r at *
   go_wp2_with fail
   rw [xorb r c hr hx]
   refine (shift_any (r ^^^ c) _ (xor_lt32 hr (by omega)) hT).mono ?_
   rintro e w' ⟨rfl, rfl⟩
   go_wp2
   go_round
   case rel => exact ⟨k + 1, by omega, by go_num, congrArg (Value.int .u32) (by rw [HS.out])⟩
   case measure => simp [intOf]; omega
  ·
   go_wp2
   go_ret
   have e : zs.take k = zs := List.take_of_length_le (by rw [hB.1]; omega)
   rw [e] at hr ⊢
   exact ⟨congrArg (fun x => Ending.returned (Value.int .u32 x)) (not32 _ hr), rfl⟩
set_option maxHeartbeats 1000000 in
theorem sum_any (a : Option Addr) (len cap : Nat) (zs : List Nat) (w : World) (hB : Bs w a len zs) (hT : CrcTab w) :
  Calls Tryz.prog 129 #[.slice a len cap] w fun e w' => e = .returned (.int .u32 (crcM 0 zs : Nat)) ∧ w' = w := by
 go_enter Tryz.func129, Tryz.ntmps129
 go_wp2_with fail
 refine (more_any 0 a len cap zs _ (by omega) hB hT).mono ?_
 rintro e w' ⟨rfl, rfl⟩
 go_wp2
 go_ret
 exact ⟨rfl, rfl⟩
theorem sh1_walk1 (q : Nat) (hq : q < 4294967296) (h : q % 2 = 1) : bits .xor .u32 ((q : Int) / 2) 2197175160 = ((sh1 q : Nat) : Int) := by
 have := bits_xor_u .u32 rfl (q / 2) 2197175160 (by show q / 2 < 4294967296; omega) (by decide)
 unfold sh1
 rw [if_pos h]
 exact this
theorem sh1_walk0 (q : Nat) (h : q % 2 = 0) : ((q : Int) / 2) = ((sh1 q : Nat) : Int) := by
 unfold sh1
 rw [if_neg (by omega)]
 simp
set_option maxHeartbeats 1000000 in
theorem refMore_any (s : Nat) (a : Option Addr) (len cap : Nat) (zs : List Nat) (w : World) (hs : s < 4294967296) (hB : Bs w a len zs) :
  Calls Tryz.prog 130 #[.int .u32 s, .slice a len cap] w fun e w' => e = .returned (.int .u32 (crcM s zs : Nat)) ∧ w' = w := by
 have hm : len ≤ 9223372036854775807 := hB.2.1
 go_enter Tryz.func130, Tryz.ntmps130
 go_wp2
 go_loop [5, 13] (fun rv iv => ∃ k : Nat, k ≤ len ∧ iv = .int .i64 k ∧ rv = .int .u32 (crcR (4294967295 - s) (zs.take k) : Nat)) (fun _ iv => len - (intOf iv).toNat)
 case atStart => exact ⟨0, Nat.zero_le _, rfl, congrArg (Value.int .u32) (not32 s hs)⟩
 case round =>
  obtain ⟨k, hk, rfl, rfl⟩ := hrel
  have hr : crcR (4294967295 - s) (zs.take k) < 4294967296 := crcR_lt _ (by omega) (fun x hx => hB.2.2.1 x (List.mem_of_mem_take hx))
  by_cases hlt : k < len
  ·
   have hstep : crcR (4294967295 - s) (zs.take (k + 1)) = sh8 (crcR (4294967295 - s) (zs.take k) ^^^ zs[k]?.getD 0) := by
    rw [take_succ_getD zs k (by rw [hB.1]; exact hlt), crcR_snoc]
   have HS : Hid (_ = _) := hstep
   clear hstep
   have hx : zs[k]?.getD 0 < 256 := getD_mem_lt zs k 256 (by omega) hB.2.2.1
   obtain ⟨b, off, rfl, hb, hc⟩ := hB.pos (by omega)
   have hck := hc k hlt
   clear hc hb
   rw [List.getD_eq_getElem?_getD] at hck
   generalize zs[k]?.getD 0 = c at *
   generalize crcR (4294967295 - s) (zs.take k) = r at *
   have hX : Hid (_ = _) := xorb r c hr hx
   have hq0 : r ^^^ c < 4294967296 := xor_lt32 hr (by omega)
   go_wp2
   go_loop [5, 21] (fun rv iv => ∃ j : Nat, j ≤ 8 ∧ iv = .int .i64 j ∧ rv = .int .u32 (iter sh1 j (r ^^^ c) : Nat)) (fun _ iv => 8 - (intOf iv).toNat)
   case atStart => exact ⟨0, by omega, rfl, congrArg (Value.int .u32) hX.out⟩
   case round =>
    obtain ⟨j, hj, rfl, rfl⟩ := hrel
    have hq := iter1_lt j hq0
    have HJ : Hid (iter sh1 (j + 1) (r ^^^ c) = sh1 (iter sh1 j (r ^^^ c))) := rfl
    have H8 : Hid (iter sh1 8 (r ^^^ c) = sh8 (r ^^^ c)) := sh8_iter1 _
    by_cases hjl : j < 8
    ·
     generalize iter sh1 j (r ^^^ c) = q at *
     have ha := and1 q hq
     have hs2 : q % 2 = 0 ∨ q % 2 = 1 := by omega
     rcases hs2 with hs2 | hs2
     ·
      rw [hs2] at ha
      have HQ : Hid (_ = _) := hs2
      clear hs2
      go_wp2
      go_round
      case rel => exact ⟨j + 1, by omega, by go_num, congrArg (Value.int .u32) (by rw [HJ.out]; exact sh1_walk0 q HQ.out)⟩
      case measure => simp [intOf]; omega
     ·
      rw [hs2] at ha
      have HQ : Hid (_ = _) := hs2
      clear hs2
      go_wp2
      go_round
      case rel => exact ⟨j + 1, by omega, by go_num, congrArg (Value.int .u32) (by rw [HJ.out]; exact sh1_walk1 q hq HQ.out)⟩
      case measure => simp [intOf]; omega
    ·
     obtain rfl : j = 8 := by omega
     rw [H8.out]
     go_wp2
     go_round
     case rel => exact ⟨k + 1, by omega, by go_num, congrArg (Value.int .u32) (by rw [HS.out])⟩
     case measure => simp [intOf]; omega
  ·
   go_wp2
   go_ret
   have e : zs.take k = zs := List.take_of_length_le (by rw [hB.1]; omega)
   rw [e] at hr ⊢
   exact ⟨congrArg (fun x => Ending.returned (Value.int .u32 x)) (not32 _ hr), rfl⟩
set_option maxHeartbeats 1000000 in
theorem refSum_any (a : Option Addr) (len cap : Nat) (zs : List Nat) (w : World) (hB : Bs w a len zs) :
  Calls Tryz.prog 103 #[.slice a len cap] w fun e w' => e = .returned (.int .u32 (crcM 0 zs : Nat)) ∧ w' = w := by
 go_enter Tryz.func103, Tryz.ntmps103
 go_wp2_with fail
 refine (refMore_any 0 a len cap zs _ (by omega) hB).mono ?_
 rintro e w' ⟨rfl, rfl⟩
 go_wp2
 go_ret
 exact ⟨rfl, rfl⟩
end Go.Proofs.YtdppolelakbbiaaGreatDoor

namespace Go.Proofs.YtdppolelakbbiaaGreatDoor
open Go.RowKit
set_option linter.unusedVariables false
def preB (nm : List Nat) (i g n : Nat) : List Nat := 229 :: (putB (crcM 0 nm) 4 ++ (putB i 4 ++ (putB g 8 ++ [n])))
def headB (nm : List Nat) (i g : Nat) (p : List Nat) : List Nat := preB nm i g p.length ++ (p ++ List.replicate (106 - p.length) 0)
def frameB (nm : List Nat) (i g : Nat) (p : List Nat) : List Nat := headB nm i g p ++ putB (crcM 0 (headB nm i g p)) 4
theorem preB_length (nm : List Nat) (i g n : Nat) : (preB nm i g n).length = 18 := by simp [preB, putB_length]
theorem headB_length (nm : List Nat) (i g : Nat) (p : List Nat) (h : p.length ≤ 106) : (headB nm i g p).length = 124 := by
 simp only [headB, List.length_append, preB_length, List.length_replicate]; omega
theorem frameB_length (nm : List Nat) (i g : Nat) (p : List Nat) (h : p.length ≤ 106) : (frameB nm i g p).length = 128 := by
 simp only [frameB, List.length_append, headB_length nm i g p h, putB_length]
theorem preB_lt (nm : List Nat) (i g n : Nat) (hn : n < 256) : ∀ x ∈ preB nm i g n, x < 256 := by
 intro x hx
 simp only [preB, List.mem_cons, List.mem_append, List.not_mem_nil, or_false] at hx
 rcases hx with rfl | hx | hx | hx | rfl
 ·
  omega
 ·
  exact putB_lt _ _ x hx
 ·
  exact putB_lt _ _ x hx
 ·
  exact putB_lt _ _ x hx
 ·
  exact hn
theorem headB_lt (nm : List Nat) (i g : Nat) (p : List Nat) (h : p.length ≤ 106) (hp : ∀ x ∈ p, x < 256) : ∀ x ∈ headB nm i g p, x < 256 := by
 intro x hx
 simp only [headB, List.mem_append, List.mem_replicate] at hx
 rcases hx with hx | hx | hx
 ·
  exact preB_lt nm i g p.length (by omega) x hx
 ·
  exact hp x hx
 ·
  omega
theorem frameB_lt (nm : List Nat) (i g : Nat) (p : List Nat) (h : p.length ≤ 106) (hp : ∀ x ∈ p, x < 256) : ∀ x ∈ frameB nm i g p, x < 256 := by
 intro x hx
 simp only [frameB, List.mem_append] at hx
 rcases hx with hx | hx
 ·
  exact headB_lt nm i g p h hp x hx
 ·
  exact putB_lt _ _ x hx
theorem part_at (a b c : List Nat) (n m : Nat) (hn : a.length = n) (hm : b.length = m) : ((a ++ (b ++ c)).drop n).take m = b := by
 rw [List.drop_append_of_le_length (by omega), List.drop_of_length_le (by omega), List.nil_append, List.take_append_of_le_length (by omega), List.take_of_length_le (by omega)]
theorem frameB_gen (nm : List Nat) (i g : Nat) (p : List Nat) : ((frameB nm i g p).drop 9).take 8 = putB g 8 := by
 have e : frameB nm i g p = (229 :: (putB (crcM 0 nm) 4 ++ putB i 4)) ++ (putB g 8 ++ ([p.length] ++ (p ++ List.replicate (106 - p.length) 0) ++ putB (crcM 0 (headB nm i g p)) 4)) := by
  simp [frameB, headB, preB]
 rw [e]; exact part_at _ _ _ 9 8 (by simp [putB_length]) (putB_length _ _)
theorem frameB_len (nm : List Nat) (i g : Nat) (p : List Nat) : (frameB nm i g p).getD 17 0 = p.length := by
 have e : frameB nm i g p = (229 :: (putB (crcM 0 nm) 4 ++ putB i 4 ++ putB g 8)) ++ (p.length :: ((p ++ List.replicate (106 - p.length) 0) ++ putB (crcM 0 (headB nm i g p)) 4)) := by
  simp [frameB, headB, preB]
 have hl : (229 :: (putB (crcM 0 nm) 4 ++ putB i 4 ++ putB g 8)).length = 17 := by simp [putB_length]
 rw [e, List.getD_eq_getElem?_getD, List.getElem?_append_right (by omega), hl]
 rfl
theorem frameB_load (nm : List Nat) (i g : Nat) (p : List Nat) : ((frameB nm i g p).drop 18).take p.length = p := by
 have e : frameB nm i g p = preB nm i g p.length ++ (p ++ (List.replicate (106 - p.length) 0 ++ putB (crcM 0 (headB nm i g p)) 4)) := by
  simp [frameB, headB]
 rw [e]; exact part_at _ _ _ 18 _ (preB_length _ _ _ _) rfl
theorem frameB_gen_get (nm : List Nat) (i g : Nat) (p : List Nat) (hg : g < 18446744073709551616) : getB 0 (((frameB nm i g p).drop 9).take 8) = g := by
 rw [frameB_gen, getB_putB, Nat.mod_eq_of_lt hg]
end Go.Proofs.YtdppolelakbbiaaGreatDoor

namespace Go.Proofs.YtdppolelakbbiaaGreatDoor
open Go.RowKit
set_option linter.unusedVariables false
theorem Tryz.infoFrame : (Tryz.prog.info? 130).map (fun i => (i.zero, i.size)) = some (some (.agg (vb (List.replicate 128 0)).toArray), 128) := by kernel_rfl
theorem Tryz.infoByte : (Tryz.prog.info? 5).map (·.size) = some 1 := by kernel_rfl
def nums (s : ByteArray) : List Nat := s.data.toList.map UInt8.toNat
theorem nums_length (s : ByteArray) : (nums s).length = s.size := by rw [nums, List.length_map]; rfl
theorem nums_lt (s : ByteArray) : ∀ x ∈ nums s, x < 256 := by
 intro x hx
 simp only [nums, List.mem_map] at hx
 obtain ⟨y, _, rfl⟩ := hx
 exact y.toNat_lt
theorem bs_nums (w : World) (s : ByteArray) (hs : s.size ≤ maxLen) : Bs (Lib.bytesWorld w 5 s) (some ⟨w.heap.size, 0, none⟩) s.size (nums s) := by
 refine ⟨nums_length s, hs, nums_lt s, (fun h => by simp at h), fun x hx j hj => ?_⟩
 cases hx
 rw [add_none, Nat.zero_add, Lib.bytesWorld_cell w 5 s j hj]
 have hj' : j < s.data.toList.length := hj
 simp only [nums, List.getD_eq_getElem?_getD, List.getElem?_map, lQ6 hj', Option.map_some, Option.getD_some]
theorem below_bytes (w : World) (s : ByteArray) : Below w.heap.size w (Lib.bytesWorld w 5 s) :=
 ⟨rfl, rfl, rfl, by rw [Lib.bytesWorld_size]; omega, fun k hk => Lib.bytesWorld_at_old w 5 s k hk⟩
theorem splice_vb (l c : List Nat) (o : Nat) : splice (vb l) o (vb c) = vb (splice l o c) := by simp [splice, vb]
theorem src_of_own {w : World} {base g k : Nat} {zs : List Nat} (h : w.ownsRow base 5 1 (.slice (some ⟨g, 0, none⟩) k k) k (vb zs)) :
  ∀ j v, (vb zs)[j]? = some v → w.cell? ((⟨g, 0, none⟩ : Addr).add j) = some v := by
 intro j v hj
 have hl : (vb zs).length = k := by simpa using h.1
 have hlt := (lQ4.1 hj).1
 rw [add_none, Nat.zero_add, h.cellAt j (by omega)]
 exact hj
theorem put_named (n k : Nat) (wd : Int) (P : List Nat) (w : World) (hn : n < 18446744073709551616) (hk : k ≤ 8) (hw : wd = k) (hP : Hid (P = putB n k)) :
  Calls Tryz.prog 86 #[.int .u64 n, .int .i64 wd] w fun e w' => e = .returned (.slice (some ⟨w.heap.size, 0, none⟩) k k) ∧ w'.ownsRow w.heap.size 5 1 (.slice (some ⟨w.heap.size, 0, none⟩) k k) k (vb P) ∧ Below w.heap.size w w' := by
 rw [hP.out]
 exact put_any n wd k w hn (by omega)
def Fr (w0 w1 : World) (cur : List Nat) : Prop :=
 w1.heap[w0.heap.size + 1]? = some (.cells (vb cur).toArray 130 (0, 0)) ∧ Below w0.heap.size w0 w1 ∧ w0.heap.size + 2 ≤ w1.heap.size ∧
 ∃ old : List Nat, old.length = 128 ∧ w1.heap[w0.heap.size]? = some (.cells (vb old).toArray 130 (0, 0))
theorem Fr.below {w0 w1 w2 : World} {cur : List Nat} (h : Fr w0 w1 cur) (hb : Below w1.heap.size w1 w2) : Fr w0 w2 cur := by
 obtain ⟨h1, h2, h3, old, h4, h5⟩ := h
 exact ⟨(hb.block _ (by omega)).trans h1, h2.trans (hb.mono (by have := h2.size; omega)), by have := hb.size; omega, old, h4, (hb.block _ (by omega)).trans h5⟩
theorem Fr.drew {w0 w1 : World} {cur : List Nat} (h : Fr w0 w1 cur) : Fr w0 w1.drew cur := h.below (Below.refl _ _).drew
theorem copy_vb (w : World) (w0 : World) (o dLen dCap sLen sCap : Nat) (a : Addr) (cur c cur' : List Nat) (F : Fr w0 w cur) (hc : cur' = splice cur o c) (hn : c.length = Nat.min sLen dLen) (hfit : o + c.length ≤ cur.length)
  (hsrc : ∀ j v, (vb c)[j]? = some v → w.cell? (a.add j) = some v) :
  (Builtin.copy_ #[28, 28] 3 #[.slice (some ⟨w0.heap.size + 1, o, none⟩) dLen dCap, .slice (some a) sLen sCap]).run Tryz.prog w = .ok (goInt c.length) (w.setRow (w0.heap.size + 1) (vb cur').toArray) := by
 have h := run_copy_row Tryz.prog w 28 28 3 5 (w0.heap.size + 1) o dLen dCap a sLen sCap (vb cur).toArray 130 (vb c) Tryz.underlying28 Tryz.infoByte F.1 (by rw [length_vb]; exact hn) hsrc (by simpa [length_vb] using hfit) (one_vb c)
 rw [h, length_vb, hc, ← splice_vb, splice, length_vb, List.append_assoc]
theorem Fr.laid {w0 w1 : World} {cur cur' : List Nat} (h : Fr w0 w1 cur) : Fr w0 (w1.setRow (w0.heap.size + 1) (vb cur').toArray) cur' :=
 ⟨setRow_heap _ _ _ _ _ _ h.1, below_setRow h.2.1 (by omega) _, by simpa using h.2.2.1, by
  obtain ⟨old, h4, h5⟩ := h.2.2.2
  exact ⟨old, h4, (setRow_other _ _ _ _ (by omega)).trans h5⟩⟩
theorem Fr.set {w0 w1 : World} {cur : List Nat} (h : Fr w0 w1 cur) (k y : Nat) : Fr w0 (w1.setCell ⟨w0.heap.size + 1, k, none⟩ (.int .u8 (y : Int))) (cur.set k y) := by
 rw [setCell_eq_setRow _ _ _ _ _ _ _ h.1, List.setIfInBounds_toArray, vb_set]
 exact h.laid
theorem Fr.cell {w0 w1 : World} {cur : List Nat} (h : Fr w0 w1 cur) (k : Nat) (hk : k < cur.length) : w1.cell? ⟨w0.heap.size + 1, k, none⟩ = some (.int .u8 ((cur.getD k 0 : Nat) : Int)) := by
 rw [cell_of_row _ _ _ _ _ _ h.1, List.getElem?_toArray]
 exact vb_getD cur k hk
theorem Fr.frozen {w0 w1 : World} {cur : List Nat} (h : Fr w0 w1 cur) (k : Nat) : w1.frozen? ⟨w0.heap.size + 1, k, none⟩ = false := frozen_of_row _ _ _ _ _ h.1
theorem Fr.bs {w0 w1 : World} {cur : List Nat} (h : Fr w0 w1 cur) (n : Nat) (hn : n ≤ cur.length) (hm : n ≤ maxLen) (hz : ∀ x ∈ cur, x < 256) : Bs w1 (some ⟨w0.heap.size + 1, 0, none⟩) n (cur.take n) := by
 refine ⟨by simp; omega, hm, fun x hx => hz x (List.mem_of_mem_take hx), (fun h => by simp at h), fun x hx j hj => ?_⟩
 cases hx
 rw [add_none, Nat.zero_add, h.cell j (by omega)]
 simp [List.getD_eq_getElem?_getD, hj]
theorem copy_bs (w : World) (w0 : World) (o dLen dCap len cap : Nat) (a : Option Addr) (cur c cur' : List Nat) (F : Fr w0 w cur) (hc : cur' = splice cur o c) (hB : Bs w a len c) (hn : len ≤ dLen) (hfit : o + len ≤ cur.length) :
  (Builtin.copy_ #[28, 28] 3 #[.slice (some ⟨w0.heap.size + 1, o, none⟩) dLen dCap, .slice a len cap]).run Tryz.prog w = .ok (goInt len) (w.setRow (w0.heap.size + 1) (vb cur').toArray) := by
 by_cases h0 : len = 0
 ·
  subst h0
  obtain rfl : c = [] := List.length_eq_zero_iff.1 hB.1
  have e : cur' = cur := by rw [hc]; simp [splice]
  rw [e, setRow_self _ _ _ _ _ F.1, run_copy_none (P := Tryz.prog) w 28 28 3 5 _ _ _ _ _ _ Tryz.underlying28 Tryz.infoByte (by simp)]
  rfl
 ·
  obtain ⟨b, off, rfl, hb, hcell⟩ := hB.pos (by omega)
  have h := copy_vb w w0 o dLen dCap len cap ⟨b, off, none⟩ cur c cur' F hc (by rw [hB.1]; exact (Nat.min_eq_left hn).symm) (by rw [hB.1]; exact hfit) (fun j v hj => by
   have hlt : j < c.length := by have := (lQ4.1 hj).1; rwa [length_vb] at this
   rw [vb_getD c j hlt] at hj
   rw [add_none, hcell j (by rw [← hB.1]; exact hlt)]
   exact hj)
  rw [hB.1] at h
  exact h
set_option maxHeartbeats 1000000 in
theorem framed_raw (s : ByteArray) (i g : Nat) (a : Option Addr) (len cap : Nat) (p : List Nat) (w : World) (hB : Bs w a len p) (hT : CrcTab w) (hl : len ≤ 106) (hsm : s.size ≤ maxLen) (hg64 : g < 18446744073709551616) (hi64 : i < 18446744073709551616)
  (n0 : Nat) (hn0 : n0 < 4294967296) (HN0 : Hid (n0 = crcM 0 (nums s))) (c0 c1 c2 c3 c4 c5 c6 c7 c8 P1 P2 P3 P4 : List Nat) (HC0 : Hid (c0 = List.replicate 128 0)) (HC1 : Hid (c1 = c0.set 0 229)) (HC2 : Hid (c2 = splice c1 1 P1)) (HC3 : Hid (c3 = splice c2 5 P2)) (HC4 : Hid (c4 = splice c3 9 P3)) (HC5 : Hid (c5 = c4.set 17 len)) (HC6 : Hid (c6 = splice c5 18 p)) (HC7 : Hid (c7 = c6.take 124)) (hz6 : ∀ x ∈ c6, x < 256) (n1 : Nat) (HN1 : Hid (n1 = crcM 0 c7)) (HP4 : Hid (P4 = putB n1 4)) (HC8 : Hid (c8 = splice c6 124 P4)) (HP1 : Hid (P1 = putB n0 4)) (HP2 : Hid (P2 = putB i 4)) (HP3 : Hid (P3 = putB g 8)) :
  Calls Tryz.prog 97 #[.string s, .int .i64 i, .int .i64 g, .slice a len cap] w fun e w' => e = .returned (.agg (vb c8).toArray) ∧ Below w.heap.size w w' := by
 obtain ⟨hz, hzs⟩ := zero_of_info Tryz.infoFrame
 rw [← HC0.out] at hz
 have hcv := fun (wx : World) => Lib.run_convert_string_bytes (P := Tryz.prog) wx 9 28 5 s Tryz.underlying9 Tryz.underlying28 Tryz.underlying5
 have h00 : (vb c0)[0]? = some (.int .u8 0) := by rw [HC0.out]; rfl
 have l0 : c0.length = 128 := by rw [HC0.out]; rfl
 have l1 : c1.length = 128 := by rw [HC1.out]; simpa using l0
 have l2 : P1.length = 4 := by rw [HP1.out]; exact putB_length _ _
 have l3 : P2.length = 4 := by rw [HP2.out]; exact putB_length _ _
 have l4 : P3.length = 8 := by rw [HP3.out]; exact putB_length _ _
 have h64 : n0 < 18446744073709551616 := Nat.lt_trans hn0 (by decide)
 have hwn : IntKind.u64.wrap (n0 : Int) = (n0 : Int) := wrap_u_lt .u64 rfl _ h64
 have hwi : IntKind.u64.wrap (i : Int) = (i : Int) := wrap_u_lt .u64 rfl _ hi64
 have hwg : IntKind.u64.wrap (g : Int) = (g : Int) := wrap_u_lt .u64 rfl _ hg64
 have hf1 : 1 + P1.length ≤ c1.length := by omega
 have l5 : c2.length = 128 := by rw [HC2.out, length_splice _ _ _ (by omega)]; exact l1
 have hf2 : 5 + P2.length ≤ c2.length := by omega
 have l6 : c3.length = 128 := by rw [HC3.out, length_splice _ _ _ (by omega)]; exact l5
 have hf3 : 9 + P3.length ≤ c3.length := by omega
 have l7 : c4.length = 128 := by rw [HC4.out, length_splice _ _ _ (by omega)]; exact l6
 have l8 : c5.length = 128 := by rw [HC5.out]; simpa using l7
 have lp : p.length = len := hB.1
 have l10 : c6.length = 128 := by rw [HC6.out, length_splice _ _ _ (by omega)]; exact l8
 have l9 : P4.length = 4 := by rw [HP4.out]; exact putB_length _ _
 have hf8 : 124 + P4.length ≤ c6.length := by omega
 have h641 : n1 < 18446744073709551616 := by rw [HN1.out]; exact Nat.lt_trans (crcM_lt _ _) (by decide)
 have hwn1 : IntKind.u64.wrap (n1 : Int) = (n1 : Int) := wrap_u_lt .u64 rfl _ h641
 clear lp
 have l11 : c8.length = 128 := by rw [HC8.out, length_splice _ _ _ (by omega)]; exact l10
 have hwl : IntKind.u8.wrap (len : Int) = (len : Int) := wrap_u_lt .u8 rfl _ (by show len < 256; omega)
 go_enter Tryz.func97, Tryz.ntmps97
 go_wp2_with fail
 generalize hw1 : World.alloc (World.alloc w _) _ = w1
 have F1 : Fr w w1 c1 := by
  rw [← hw1]
  refine ⟨?_, ((Below.refl _ _).alloc (Nat.le_refl _) _).alloc (by simp) _, by simp, c0, l0, ?_⟩
  rotate_left
  ·
   rw [heap_alloc_old _ _ (by simp)]; exact heap_alloc_new _ _
  rw [show w.heap.size + 1 = (w.alloc (.cells (vb c0).toArray 130)).heap.size from by simp, heap_alloc_new, HC1.out, ← vb_set]
  rfl
 clear hw1
 have hT1 := hT.below F1.2.1
 have F2 : Fr w (Lib.bytesWorld w1.drew 5 s) c1 := F1.drew.below (below_bytes w1.drew s)
 have hbs := bs_nums w1.drew s hsm
 have hts : CrcTab (Lib.bytesWorld w1.drew 5 s) := hT.below F2.2.1
 go_region_with (first
  | (go_at_call 129; refine (sum_any (some ⟨w1.heap.size, 0, none⟩) s.size (grownCap w1.drew s.size 0 5) (nums s) (Lib.bytesWorld w1.drew 5 s) hbs hts).mono ?_; rw [← HN0.out]; rintro e w2 ⟨rfl, rfl⟩)
  | (go_at_call 86; refine (put_named n0 4 4 P1 (Lib.bytesWorld w1.drew 5 s) h64 (by decide) rfl HP1).mono ?_; rintro e w3 ⟨rfl, hown3, hb3⟩; have F3 := F2.below hb3; have hcp := copy_vb w3 w 1 127 127 4 4 _ c1 P1 c2 F3 HC2.out l2 hf1 (src_of_own hown3)))
 have F4 : Fr w _ c2 := F3.laid (cur' := c2)
 clear hcp hown3 hb3 F3 hbs hts F2 F1 hT1
 generalize w3.setRow (w.heap.size + 1) (vb c2).toArray = w4 at *
 clear hcv
 go_wp2_with fail
 go_region_with (first
  | (go_at_call 86; refine (put_named i 4 4 P2 w4.drew hi64 (by decide) rfl HP2).mono ?_; rintro e w5 ⟨rfl, hown5, hb5⟩; have F5 := F4.drew.below hb5; have hcp := copy_vb w5 w 5 123 123 4 4 ⟨w4.heap.size, 0, none⟩ c2 P2 c3 F5 HC3.out l3 hf2 (src_of_own hown5)))
 have F6 : Fr w _ c3 := F5.laid (cur' := c3)
 clear hcp hown5 hb5 F5 F4
 generalize w5.setRow (w.heap.size + 1) (vb c3).toArray = w6 at *
 go_wp2_with fail
 go_region_with (first
  | (go_at_call 86; refine (put_named g 8 8 P3 w6.drew hg64 (by decide) rfl HP3).mono ?_; rintro e w7 ⟨rfl, hown7, hb7⟩; have F7 := F6.drew.below hb7; have hcp := copy_vb w7 w 9 119 119 8 8 ⟨w6.heap.size, 0, none⟩ c3 P3 c4 F7 HC4.out l4 hf3 (src_of_own hown7)))
 have F8 : Fr w _ c4 := F7.laid (cur' := c4)
 clear hcp hown7 hb7 F7 F6
 generalize w7.setRow (w.heap.size + 1) (vb c4).toArray = w8 at *
 have hx17 := F8.cell 17 (by omega)
 have hf17 := F8.frozen 17
 have F9 := F8.set 17 len
 rw [← HC5.out] at F9
 have hcp := copy_bs _ w 18 110 110 len cap a c5 p c6 F9 HC6.out (hB.below F9.2.1) (by omega) (by omega)
 have F10 : Fr w _ c6 := F9.laid (cur' := c6)
 go_wp2_with fail
 clear hcp F9 F8 hx17 hf17
 generalize (w8.setCell _ _).setRow (w.heap.size + 1) (vb c6).toArray = w10 at *
 have hb10 := F10.drew.bs 124 (by omega) (by decide) hz6
 rw [← HC7.out] at hb10
 have hT10 := hT.below F10.drew.2.1
 go_region_with (first
  | (go_at_call 129; refine (sum_any (some ⟨w.heap.size + 1, 0, none⟩) 124 128 c7 w10.drew hb10 hT10).mono ?_; rw [← HN1.out]; rintro e w2 ⟨rfl, rfl⟩)
  | (go_at_call 86; refine (put_named n1 4 4 P4 w10.drew h641 (by decide) rfl HP4).mono ?_; rintro e w11 ⟨rfl, hown11, hb11⟩; have F11 := F10.drew.below hb11; have hcp := copy_vb w11 w 124 4 4 4 4 ⟨w10.heap.size, 0, none⟩ c6 P4 c8 F11 HC8.out l9 hf8 (src_of_own hown11)))
 have F12 : Fr w _ c8 := F11.laid (cur' := c8)
 clear hcp hown11 hb11 F11 F10 hb10 hT10
 generalize w11.setRow (w.heap.size + 1) (vb c8).toArray = w12 at *
 obtain ⟨hr1, hr2, hr3, old, hr4, hr5⟩ := F12
 have hsz : (Tryz.prog.info? 130).map (·.size) = some (vb c8).toArray.size := by rw [hzs]; simp [length_vb, l11]
 have hold : (vb old).toArray.size = (vb c8).toArray.size := by simp [length_vb, l11, hr4]
 have hone : (vb c8).toArray.all (·.oneCell') = true := by simpa using one_vb c8
 have R1 : Hid (_ = _) := hr1
 have R5 : Hid (_ = _) := hr5
 have HSZ : Hid (_ = _) := hsz
 have HOLD : Hid (_ = _) := hold
 have HONE : Hid (_ = _) := hone
 clear hr1 hr5 hsz hold hone hzs hz
 go_wp2_with (first
  | (refine wpList_load_row rfl 130 (.tmp 9) rfl (w.heap.size + 1) rfl 130 (vb c8).toArray (0, 0) _ R1.out Tryz.underlying130 rfl HSZ.out ?_)
  | (refine wpList_store_row rfl 130 (.tmp 8) (.tmp 41) rfl w.heap.size (vb c8).toArray rfl rfl 130 (vb old).toArray R5.out HSZ.out HOLD.out HONE.out ?_))
 refine bodyPost_ret (v := .agg (vb c8).toArray) (results_cell_row rfl _ _ w.heap.size 130 _ (0, 0) _ rfl (setRow_heap _ _ _ _ _ _ R5.out) Tryz.underlying130 rfl HSZ.out) rfl ⟨rfl, below_setRow hr2 (Nat.le_refl _) _⟩
end Go.Proofs.YtdppolelakbbiaaGreatDoor
