/- pair.Get at any extent of any disk. -/
import Derived.Test.YtdppolelakbbiaaGreatDoorMj
import Derived.Test.YtdppolelakbbiaaGreatDoorMk
import Derived.Test.YtdppolelakbbiaaGreatDoorMe
namespace Go.Proofs.YtdppolelakbbiaaGreatDoor
open Go.RowKit Go.Maps
set_option linter.unusedVariables false
def rdO (l : List Ext) (nm : List Nat) (i : Int) : Option (List Nat × Nat) := if i < 0 then none else (l[i.toNat]?).bind fun x => openB x.rd nm i
def getO : Option (List Nat × Nat) → Option (List Nat × Nat) → Option (List Nat × Nat)
 | none, y => y
 | some x, none => some x
 | some x, some y => if x.2 < y.2 then some y else some x
def getP (M : List UInt8 → List Ext) (s : ByteArray) (i : Int) : Option (List Nat × Nat) := getO (rdO (M (fileA s).data.toList) (nums (fileA s)) i) (rdO (M (fileB s).data.toList) (nums (fileB s)) i)
theorem openB_nil (nm : List Nat) (i : Int) : openB [] nm i = none := by
 unfold openB
 rw [if_neg]
 rintro ⟨h, _⟩
 simp at h
theorem read_all (w : World) (d : Nat) (F : Nat → Prop) (N : Nat) (M : List UInt8 → List Ext) (free fuse : Int) (h : DiskOf w d F N M free fuse) (s : ByteArray) (hs : s.size ≤ maxLen) (i : Int) :
  Calls Tryz.prog 73 #[.pointer (some ⟨d, 0, none⟩), .string s, .int .i64 i] w fun e w' => ∃ a len c z r, e = .returned (.tuple #[.slice a len c, .int .i64 r]) ∧ Bs w' a len z ∧ len ≤ c ∧ Hid (∀ nm, openB z nm i = rdO (M s.data.toList) nm i) ∧ Below w.heap.size w w' := by
 obtain ⟨n, hn⟩ : ∃ n, n = (M s.data.toList).length := ⟨_, rfl⟩
 by_cases hi : i < 0 ∨ (n : Int) ≤ i
 ·
  refine (diskRead_none w d F N M free fuse h s hs i n (hidn hn) hi).mono ?_
  rintro e w' ⟨rfl, hb⟩
  refine ⟨none, 0, 0, [], 30, rfl, Bs.nil _, Nat.le_refl _, hidn (fun nm => ?_), hb⟩
  rw [openB_nil]
  unfold rdO
  rcases hi with hi | hi
  ·
   rw [if_pos hi]
  ·
   split
   ·
    rfl
   ·
    rw [List.getElem?_eq_none (by rw [← hn]; omega)]; rfl
 ·
  obtain ⟨k, rfl⟩ : ∃ k : Nat, i = (k : Int) := ⟨i.toNat, by omega⟩
  have hk : k < n := by omega
  obtain ⟨x, hx⟩ : ∃ x, (M s.data.toList)[k]? = some x := ⟨_, lQ6 (by rw [← hn]; exact hk)⟩
  refine (diskRead_some w d F N M free fuse h s hs k n (k * 385) (hidn hn) hk rfl x.rd x (hidn hx) (hidn rfl)).mono ?_
  rintro e w' ⟨b, rfl, _, hB, hb⟩
  refine ⟨_, 128, 128, x.rd, 0, rfl, hB, Nat.le_refl _, hidn (fun nm => ?_), hb⟩
  unfold rdO
  rw [if_neg (by omega), Int.toNat_natCast, hx]
  rfl
def GetPost (w : World) (r : Option (List Nat × Nat)) (e : Ending) (w' : World) : Prop :=
 Below w.heap.size w w' ∧ match r with
  | none => e = .returned (.tuple #[.slice none 0 0, .int .i64 0, .int .i64 50])
  | some (p, g) => ∃ v, e = .returned (.tuple #[v, .int .i64 (g : Int), .int .i64 0]) ∧ w'.ownsRow w.heap.size 5 1 v p.length (vb p)
def BestV (base : Nat) (cur : Option (List Nat × Nat)) (bv gv fv : Value) (w : World) : Prop :=
 match cur with
 | none => bv = .slice none 0 0 ∧ gv = .int .i64 0 ∧ fv = .bool false
 | some (p, g) => w.ownsRow base 5 1 bv p.length (vb p) ∧ gv = .int .i64 (g : Int) ∧ fv = .bool true
theorem own_sliceG {w : World} {base e size n : Nat} {v : Value} {xs : List Value} (h : w.ownsRow base e size v n xs) : ∃ a c, v = .slice a n c := by
 rcases h.2 with ⟨rfl, rfl⟩ | ⟨g, cap, cur, rfl, _⟩
 ·
  exact ⟨none, 0, rfl⟩
 ·
  exact ⟨_, _, rfl⟩
set_option maxHeartbeats 4000000 in
theorem get_all (w : World) (d : Nat) (F : Nat → Prop) (N : Nat) (M : List UInt8 → List Ext) (free fuse : Int) (h : DiskOf w d F N M free fuse) (hT : CrcTab w) (hM0 : M [] = []) (s : ByteArray) (hs : s.size ≤ 1000) (i : Int) :
  Calls Tryz.prog 21 #[.pointer (some ⟨d, 0, none⟩), .string s, .int .i64 i] w (GetPost w (getP M s i)) := by
 have HD := hidn h
 have hHv := fun wx => halves_any wx s hs
 have hsA : (fileA s).size ≤ maxLen := by
  have : (fileA s).size = s.size + 2 := by show (s ++ (⟨#[46, 97]⟩ : ByteArray)).size = _; rw [ByteArray.size_append]; rfl
  rw [this]; unfold maxLen; omega
 have hsB : (fileB s).size ≤ maxLen := by
  have : (fileB s).size = s.size + 2 := by show (s ++ (⟨#[46, 98]⟩ : ByteArray)).size = _; rw [ByteArray.size_append]; rfl
  rw [this]; unfold maxLen; omega
 have hP : getP M s i = getO (rdO (M (fileA s).data.toList) (nums (fileA s)) i) (rdO (M (fileB s).data.toList) (nums (fileB s)) i) := rfl
 rw [hP]
 obtain ⟨fa, hfa⟩ : ∃ fa, fa = fileA s := ⟨_, rfl⟩
 obtain ⟨fb, hfb⟩ : ∃ fb, fb = fileB s := ⟨_, rfl⟩
 rw [← hfa] at hsA ⊢
 rw [← hfb] at hsB ⊢
 obtain ⟨rA, hrA⟩ : ∃ rA, rA = rdO (M fa.data.toList) (nums fa) i := ⟨_, rfl⟩
 obtain ⟨rB, hrB⟩ : ∃ rB, rB = rdO (M fb.data.toList) (nums fb) i := ⟨_, rfl⟩
 rw [← hrA, ← hrB]
 have HRA := hidn hrA
 have HRB := hidn hrB
 have HFA := hidn hfa
 have HFB := hidn hfb
 clear hP hfa hfb hrA hrB h
 go_enter Tryz.func21, Tryz.ntmps21
 go_wp2_with fail
 refine (pairMade _ d F N M free fuse HD.out hM0).mono ?_
 rintro e w1 ⟨rfl, hb1⟩
 go_wp2_with fail
 refine (hHv _).mono ?_
 rw [← HFA.out, ← HFB.out]
 rintro e w4 ⟨rfl, hb4⟩
 have hb14 : Below w.heap.size w w4 := hb1.trans (hb4.mono hb1.size)
 clear hb1 hb4 hHv
 have hi0 : ∀ wx : World, (Instr.index 84 (.agg #[.string fa, .string fb]) (.int .i64 0)).run Tryz.prog wx = .ok (.string fa) wx := fun wx => by kernel_rfl
 have hi1 : ∀ wx : World, (Instr.index 84 (.agg #[.string fa, .string fb]) (.int .i64 1)).run Tryz.prog wx = .ok (.string fb) wx := fun wx => by kernel_rfl
 go_wp2_with fail
 go_loopw [9, 10, 11, 24] (fun bv gv fv iv wr => ∃ k : Nat, iv = .int .i64 k ∧ Below w.heap.size w wr ∧ ((k = 0 ∧ bv = .slice none 0 0 ∧ gv = .int .i64 0 ∧ fv = .bool false) ∨ (k = 1 ∧ Hid (BestV w.heap.size rA bv gv fv wr)) ∨ (k = 2 ∧ Hid (BestV w.heap.size (getO rA rB) bv gv fv wr)))) (fun _ _ _ iv _ => 2 - (intOf iv).toNat)
 case atStart => exact ⟨0, rfl, hb14, Or.inl ⟨rfl, rfl, rfl, rfl⟩⟩
 case round =>
  obtain ⟨k, rfl, hbk, (⟨rfl, rfl, rfl, rfl⟩ | ⟨rfl, hBV⟩ | ⟨rfl, hBV⟩)⟩ := hrel
  ·
   go_wp2_with fail
   refine (read_all _ d F N M free fuse (HD.out.below hbk) fa hsA i).mono ?_
   rintro e w6 ⟨a6, l6, c6, z6, r6, rfl, hB6, hc6, HO6, hbl6⟩
   have hbk6 : Below w.heap.size w w6 := hbk.trans (hbl6.mono hbk.size)
   have HOp := hidn (open_any fa i a6 l6 c6 z6 w6 hB6 hc6 (hT.below hbk6) hsA)
   rw [HO6.out, ← HRA.out] at HOp
   go_wp2_with fail
   refine HOp.out.mono ?_
   clear HOp
   rintro e w7 ⟨hb7, ho7⟩
   have hbk7 : Below w.heap.size w w7 := hbk6.trans (hb7.mono hbk6.size)
   have hsz6 := hbk6.size
   clear hbk hbl6 hB6 hbk6 hb7
   cases hra : rA with
   | none =>
    rw [hra] at ho7
    obtain rfl := (show e = .returned (.tuple #[.slice none 0 0, .int .i64 0, .int .i64 40]) from ho7)
    have HE : Hid (BestV w.heap.size rA (.slice none 0 0) (.int .i64 0) (.bool false) w7) := hidn (by rw [hra]; exact ⟨rfl, rfl, rfl⟩)
    clear ho7 hra
    go_wp2
    go_roundw
    case rel => exact ⟨1, by first | rfl | go_num | simp, hbk7, Or.inr (Or.inl ⟨rfl, HE⟩)⟩
    case measure => simp [intOf]
   | some pg =>
    obtain ⟨p, g⟩ := pg
    rw [hra] at ho7
    obtain ⟨v, rfl, hown⟩ := (show ∃ v, e = .returned (.tuple #[v, .int .i64 (g : Int), .int .i64 0]) ∧ w7.ownsRow w6.heap.size 5 1 v p.length (vb p) from ho7)
    obtain ⟨va, vc, rfl⟩ := own_sliceG hown
    have HE : Hid (BestV w.heap.size rA (.slice va p.length vc) (.int .i64 (g : Int)) (.bool true) w7) := hidn (by rw [hra]; exact ⟨own_mono hown hsz6, rfl, rfl⟩)
    obtain ⟨pl, hpl⟩ : ∃ pl, pl = p.length := ⟨_, rfl⟩
    rw [← hpl] at HE ⊢
    clear hown ho7 hra hpl
    go_wp2
    go_roundw
    case rel => exact ⟨1, by first | rfl | go_num | simp, hbk7, Or.inr (Or.inl ⟨rfl, HE⟩)⟩
    case measure => simp [intOf]
  ·
   have hread := fun (wx : World) (hx : Below w.heap.size w wx) => read_all wx d F N M free fuse (HD.out.below hx) fb hsB i
   cases hra : rA with
   | none =>
    obtain ⟨rfl, rfl, rfl⟩ := (show u9 = .slice none 0 0 ∧ u10 = .int .i64 0 ∧ u11 = .bool false from by have := hBV.out; rw [hra] at this; exact this)
    clear hBV
    have HRA2 := hidn hra
    clear hra
    go_wp2_with fail
    refine (hread _ hbk).mono ?_
    clear hread
    rintro e w6 ⟨a6, l6, c6, z6, r6, rfl, hB6, hc6, HO6, hbl6⟩
    have hbk6 : Below w.heap.size w w6 := hbk.trans (hbl6.mono hbk.size)
    have HOp := hidn (open_any fb i a6 l6 c6 z6 w6 hB6 hc6 (hT.below hbk6) hsB)
    rw [HO6.out, ← HRB.out] at HOp
    go_wp2_with fail
    refine HOp.out.mono ?_
    clear HOp
    rintro e w7 ⟨hb7, ho7⟩
    have hbk7 : Below w.heap.size w w7 := hbk6.trans (hb7.mono hbk6.size)
    have hsz6 := hbk6.size
    clear hbk hbl6 hB6 hbk6 hb7
    cases hrb : rB with
    | none =>
     rw [hrb] at ho7
     obtain rfl := (show e = .returned (.tuple #[.slice none 0 0, .int .i64 0, .int .i64 40]) from ho7)
     have HE : Hid (BestV w.heap.size (getO rA rB) (.slice none 0 0) (.int .i64 0) (.bool false) w7) := hidn (by rw [HRA2.out, hrb]; exact ⟨rfl, rfl, rfl⟩)
     clear ho7 hrb
     go_wp2
     go_roundw
     case rel => exact ⟨2, by first | rfl | go_num | simp, hbk7, Or.inr (Or.inr ⟨rfl, by rw [HRA2.out] at HE; exact HE⟩)⟩
     case measure => simp [intOf]
    | some pg =>
     obtain ⟨p, g⟩ := pg
     rw [hrb] at ho7
     obtain ⟨v, rfl, hown⟩ := (show ∃ v, e = .returned (.tuple #[v, .int .i64 (g : Int), .int .i64 0]) ∧ w7.ownsRow w6.heap.size 5 1 v p.length (vb p) from ho7)
     obtain ⟨va, vc, rfl⟩ := own_sliceG hown
     have HE : Hid (BestV w.heap.size (getO rA rB) (.slice va p.length vc) (.int .i64 (g : Int)) (.bool true) w7) := hidn (by rw [HRA2.out, hrb]; exact ⟨own_mono hown hsz6, rfl, rfl⟩)
     obtain ⟨pl, hpl⟩ : ∃ pl, pl = p.length := ⟨_, rfl⟩
     rw [← hpl] at HE ⊢
     clear hown ho7 hrb hpl
     go_wp2
     go_roundw
     case rel => exact ⟨2, by first | rfl | go_num | simp, hbk7, Or.inr (Or.inr ⟨rfl, by rw [HRA2.out] at HE; exact HE⟩)⟩
     case measure => simp [intOf]
   | some pg0 =>
    obtain ⟨p0, g0⟩ := pg0
    obtain ⟨hown0, rfl, rfl⟩ := (show wr.ownsRow w.heap.size 5 1 u9 p0.length (vb p0) ∧ u10 = .int .i64 (g0 : Int) ∧ u11 = .bool true from by have := hBV.out; rw [hra] at this; exact this)
    obtain ⟨va0, vc0, rfl⟩ := own_sliceG hown0
    obtain ⟨pl0, hpl0⟩ : ∃ pl0, pl0 = p0.length := ⟨_, rfl⟩
    rw [← hpl0] at hown0 ⊢
    have HPL0 := hidn hpl0
    clear hBV hpl0
    have HRA2 := hidn hra
    clear hra
    go_wp2_with fail
    refine (hread _ hbk).mono ?_
    clear hread
    rintro e w6 ⟨a6, l6, c6, z6, r6, rfl, hB6, hc6, HO6, hbl6⟩
    have hbk6 : Below w.heap.size w w6 := hbk.trans (hbl6.mono hbk.size)
    have hown6 := own_of_below hown0 hbl6
    have HOp := hidn (open_any fb i a6 l6 c6 z6 w6 hB6 hc6 (hT.below hbk6) hsB)
    rw [HO6.out, ← HRB.out] at HOp
    go_wp2_with fail
    refine HOp.out.mono ?_
    clear HOp
    rintro e w7 ⟨hb7, ho7⟩
    have hbk7 : Below w.heap.size w w7 := hbk6.trans (hb7.mono hbk6.size)
    have hown7 := own_of_below hown6 hb7
    have hsz6 := hbk6.size
    clear hbk hbl6 hB6 hbk6 hb7 hown6 hown0
    cases hrb : rB with
    | none =>
     rw [hrb] at ho7
     obtain rfl := (show e = .returned (.tuple #[.slice none 0 0, .int .i64 0, .int .i64 40]) from ho7)
     have HE : Hid (BestV w.heap.size (getO rA rB) (.slice va0 pl0 vc0) (.int .i64 (g0 : Int)) (.bool true) w7) := hidn (by rw [HRA2.out, hrb]; exact ⟨by rw [← HPL0.out]; exact hown7, rfl, rfl⟩)
     clear ho7 hrb hown7
     go_wp2
     go_roundw
     case rel => exact ⟨2, by first | rfl | go_num | simp, hbk7, Or.inr (Or.inr ⟨rfl, by rw [HRA2.out] at HE; exact HE⟩)⟩
     case measure => simp [intOf]
    | some pg =>
     obtain ⟨p, g⟩ := pg
     rw [hrb] at ho7
     obtain ⟨v, rfl, hown⟩ := (show ∃ v, e = .returned (.tuple #[v, .int .i64 (g : Int), .int .i64 0]) ∧ w7.ownsRow w6.heap.size 5 1 v p.length (vb p) from ho7)
     obtain ⟨va, vc, rfl⟩ := own_sliceG hown
     by_cases hgg : g0 < g
     ·
      have hg1 : decide ((g0 : Int) < (g : Int)) = true := by simpa using hgg
      have hg2 : decide (g0 < g) = true := by simpa using hgg
      have hg3 : (g0 : Int) < (g : Int) := by omega
      have HE : Hid (BestV w.heap.size (getO rA rB) (.slice va p.length vc) (.int .i64 (g : Int)) (.bool true) w7) := hidn (by rw [HRA2.out, hrb]; unfold getO; simp only [hgg, if_true]; exact ⟨own_mono hown hsz6, rfl, rfl⟩)
      obtain ⟨pl, hpl⟩ : ∃ pl, pl = p.length := ⟨_, rfl⟩
      rw [← hpl] at HE ⊢
      clear hown ho7 hrb hpl hown7
      go_wp2
      go_roundw
      case rel => exact ⟨2, by first | rfl | go_num | simp, hbk7, Or.inr (Or.inr ⟨rfl, by rw [HRA2.out] at HE; exact HE⟩)⟩
      case measure => simp [intOf]
     ·
      have hg1 : decide ((g0 : Int) < (g : Int)) = false := by simpa using hgg
      have hg2 : decide (g0 < g) = false := by simpa using hgg
      have hg3 : ¬ (g0 : Int) < (g : Int) := by omega
      have HE : Hid (BestV w.heap.size (getO rA rB) (.slice va0 pl0 vc0) (.int .i64 (g0 : Int)) (.bool true) w7) := hidn (by rw [HRA2.out, hrb]; unfold getO; simp only [hgg, if_false]; exact ⟨by rw [← HPL0.out]; exact hown7, rfl, rfl⟩)
      obtain ⟨pl, hpl⟩ : ∃ pl, pl = p.length := ⟨_, rfl⟩
      rw [← hpl]
      clear hown ho7 hrb hpl hown7
      go_wp2
      go_roundw
      case rel => exact ⟨2, by first | rfl | go_num | simp, hbk7, Or.inr (Or.inr ⟨rfl, by rw [HRA2.out] at HE; exact HE⟩)⟩
      case measure => simp [intOf]
  ·
   cases hrr : getO rA rB with
   | none =>
    obtain ⟨rfl, rfl, rfl⟩ := (show u9 = .slice none 0 0 ∧ u10 = .int .i64 0 ∧ u11 = .bool false from by have := hBV.out; rw [hrr] at this; exact this)
    have HE : Hid (GetPost w (getO rA rB) (.returned (.tuple #[.slice none 0 0, .int .i64 0, .int .i64 50])) wr) := hidn (by rw [hrr]; exact ⟨hbk, rfl⟩)
    clear hBV hrr
    go_wp2
    go_ret3
    exact HE.out
   | some pg0 =>
    obtain ⟨p0, g0⟩ := pg0
    obtain ⟨hown0, rfl, rfl⟩ := (show wr.ownsRow w.heap.size 5 1 u9 p0.length (vb p0) ∧ u10 = .int .i64 (g0 : Int) ∧ u11 = .bool true from by have := hBV.out; rw [hrr] at this; exact this)
    have HE : Hid (GetPost w (getO rA rB) (.returned (.tuple #[u9, .int .i64 (g0 : Int), .int .i64 0])) wr) := hidn (by rw [hrr]; exact ⟨hbk, _, rfl, hown0⟩)
    clear hBV hrr hown0
    go_wp2
    go_ret3
    exact HE.out
end Go.Proofs.YtdppolelakbbiaaGreatDoor

namespace Go.Proofs.YtdppolelakbbiaaGreatDoor
open Go.RowKit Go.Maps
set_option linter.unusedVariables false
end Go.Proofs.YtdppolelakbbiaaGreatDoor

namespace Go.Proofs.YtdppolelakbbiaaGreatDoor
open Go.RowKit Go.Maps
set_option linter.unusedVariables false
theorem fileA_list (s : ByteArray) : (fileA s).data.toList = s.data.toList ++ [46, 97] := by simp [fileA, ByteArray.data_append]
theorem fileB_list (s : ByteArray) : (fileB s).data.toList = s.data.toList ++ [46, 98] := by simp [fileB, ByteArray.data_append]
theorem file_ne (s : ByteArray) : (fileB s).data.toList ≠ (fileA s).data.toList := by
 rw [fileA_list, fileB_list]
 intro h
 have := List.append_cancel_left h
 simp at this
end Go.Proofs.YtdppolelakbbiaaGreatDoor

namespace Go.Proofs.YtdppolelakbbiaaGreatDoor
open Go.RowKit Go.Maps
set_option linter.unusedVariables false
def clampK (k : Int) : Nat := (if (128 : Int) < (if k < 0 then (0 : Int) else k) then (128 : Int) else (if k < 0 then (0 : Int) else k)).toNat
theorem clampK_eq (k : Int) : (if (128 : Int) < (if k < 0 then (0 : Int) else k) then (128 : Int) else (if k < 0 then (0 : Int) else k)) = (clampK k : Int) := by
 unfold clampK
 split <;> split <;> omega
def Ext.fell (k : Int) (x : Ext) : Ext := if x.waits then x.crashed (clampK k) else x
def fellL (kf : Int → Int) (l : List Ext) : List Ext := l.mapIdx fun i x => x.fell (kf i)
def fellTo (kf : Int → Int) (l : List Ext) (k : Nat) : List Ext := fellL kf (l.take k) ++ l.drop k
theorem fellL_length (kf : Int → Int) (l : List Ext) : (fellL kf l).length = l.length := by simp [fellL]
theorem fellTo_zero (kf : Int → Int) (l : List Ext) : fellTo kf l 0 = l := by simp [fellTo, fellL]
theorem fellTo_all (kf : Int → Int) (l : List Ext) : fellTo kf l l.length = fellL kf l := by simp [fellTo]
theorem fellTo_at (kf : Int → Int) (l : List Ext) (k : Nat) (hk : k < l.length) : (fellTo kf l k)[k]? = some l[k] := by
 unfold fellTo
 rw [List.getElem?_append_right (by rw [fellL_length]; simp; omega), fellL_length]
 simp [Nat.min_eq_left (Nat.le_of_lt hk), List.getElem?_drop]
theorem fellL_snoc (kf : Int → Int) (l : List Ext) (x : Ext) : fellL kf (l ++ [x]) = fellL kf l ++ [x.fell (kf l.length)] := by
 simp [fellL, List.mapIdx_append]
theorem fellTo_step (kf : Int → Int) (l : List Ext) (k : Nat) (hk : k < l.length) : (fellTo kf l k).set k (l[k].fell (kf k)) = fellTo kf l (k + 1) := by
 unfold fellTo
 rw [List.set_append_right _ _ (by rw [fellL_length]; simp; omega), fellL_length, List.length_take, Nat.min_eq_left (by omega), Nat.sub_self, List.drop_eq_getElem_cons hk, List.set_cons_zero, List.take_succ_eq_append_getElem hk, fellL_snoc, List.append_assoc, List.length_take, Nat.min_eq_left (by omega)]
 rfl
theorem fellTo_idle (kf : Int → Int) (l : List Ext) (k : Nat) (hk : k < l.length) (hw : l[k].waits = false) : fellTo kf l (k + 1) = fellTo kf l k := by
 rw [← fellTo_step kf l k hk, show l[k].fell (kf k) = l[k] by simp [Ext.fell, hw], set_at (fellTo_at kf l k hk)]
def fellBut (kf : List UInt8 → Int → Int) (M : List UInt8 → List Ext) (left : Lit → Bool) : List UInt8 → List Ext := fun s => if left (.string s) then M s else fellL (kf s) (M s)
theorem Keeps.grown {F : Nat → Prop} {w w1 w2 : World} {q : Nat} (h : Keeps F w w1) (hg : w1.grownBy w2 (some q)) (hq : F q ∨ w.heap.size ≤ q) : Keeps F w w2 :=
 ⟨hg.os.trans h.os, hg.tape.trans h.tape, hg.output.trans h.output, lQ1 h.size hg.size, fun i hi hn => (hg.block i (lQ2 hi h.size) (fun e => by
  have e' : i = q := lQ5 e
  subst e'
  rcases hq with hq | hq
  ·
   exact hn hq
  ·
   omega)).trans (h.block i hi hn)⟩
section
variable {w : World} {d N : Nat} {F : Nat → Prop} {M : List UInt8 → List Ext} {free fuse : Int} {bm : Nat} {D : DataW Unit} {G C : List UInt8 → Nat}
theorem DiskIs.put2 (h : DiskIs w d F N M free fuse bm D G C) (s : List UInt8) (i : Nat) (x : Ext) (hx : (M s)[i]? = some x) (o : Nat) (ho : i * 385 = o) (k : Nat) (cs : List Value) (y : Ext) (hy : y.ok) (hk : k + cs.length ≤ 385) (hsp : splice x.cells k cs = y.cells) :
  DiskIs (w.setCells (G s) (o + k) cs) d F N (upd M s ((M s).set i y)) free fuse bm D G C ∧ w.grownBy (w.setCells (G s) (o + k) cs) (some (G s)) := by
 refine ⟨(h.put s i x hx o ho k cs y hy hk hsp).1, ?_⟩
 obtain ⟨hi, he⟩ := lQ4.1 hx
 obtain ⟨_, hrow, hok⟩ := h.2.2.2.2.2.1 s (ne_of_at hx)
 subst ho
 have hl : (cellsE (M s)).length = (M s).length * 385 := cellsE_length hok
 exact (own_storedAll (w := w) cs (i * 385 + k) _ w hrow (by rw [hl]; have : (i + 1) * 385 ≤ (M s).length * 385 := Nat.mul_le_mul_right _ hi; omega)).2
theorem crash_ext (h : DiskIs w d F N M free fuse bm D G C) (s : List UInt8) (i : Nat) (x : Ext) (hx : (M s)[i]? = some x) (o : Nat) (ho : i * 385 = o) (k : Int) (hw : x.waits = true) :
  Calls Tryz.prog 111 #[.pointer (some ⟨G s, o, none⟩), .int .i64 k] w fun e w' => e = .returned (.tuple #[]) ∧ DiskIs w' d F N (upd M s ((M s).set i (x.fell k))) free fuse bm D G C ∧ w.grownBy w' (some (G s)) := by
 obtain ⟨p1, p2, p3, p4, p5, p6⟩ := h.parts s i x hx o ho
 refine (crash_run w (G s) o (clampK k) k _ rfl (clampK_eq k) x.wri p6.2.2.1 p3 (by simpa using h.thereAt s i x hx o ho 0 128 (by omega)) (h.thereAt s i x hx o ho 384 1 (by omega))).mono ?_
 rintro e w' ⟨rfl, rfl⟩
 have hb : Below w.heap.size w w.drew := (Below.refl _ _).drew
 have h0 := h.below hb
 have hm : clampK k ≤ 128 := by
  have := clampK_eq k
  split at this <;> omega
 have hy := Ext.crashed_ok p6 (clampK k)
 obtain ⟨h1, g1⟩ := h0.put2 s i x hx o ho 0 (vb (x.wri.take (clampK k))) { x with dur := x.wri.take (clampK k) ++ x.dur.drop (clampK k) } ⟨hy.1, p6.2⟩ (by rw [length_vb, List.length_take, p6.2.2.1]; omega) (by
  have e1 : (vb (x.wri.take (clampK k))).length = clampK k := by rw [length_vb, List.length_take, p6.2.2.1]; omega
  unfold splice
  rw [e1, List.take_zero, List.nil_append, Nat.zero_add]
  unfold Ext.cells
  rw [List.drop_append_of_le_length (by rw [length_vb, p6.1.1]; exact hm), ← List.append_assoc]
  congr 1
  simp [vb])
 have hx2 : (upd M s ((M s).set i { x with dur := x.wri.take (clampK k) ++ x.dur.drop (clampK k) }) s)[i]? = some { x with dur := x.wri.take (clampK k) ++ x.dur.drop (clampK k) } := by
  obtain ⟨hi, _⟩ := lQ4.1 hx
  rw [upd_same, List.getElem?_set_self hi]
 obtain ⟨h2, g2⟩ := h1.put2 s i _ hx2 o ho 384 [.bool false] (x.crashed (clampK k)) hy (by simp) (cells_waits (x := { x with dur := x.wri.take (clampK k) ++ x.dur.drop (clampK k) }) ⟨hy.1, p6.2⟩ false)
 rw [upd_upd, upd_same, List.set_set] at h2
 have e : x.fell k = x.crashed (clampK k) := by simp [Ext.fell, hw]
 rw [e]
 have g0 : w.grownBy w.drew (some (G s)) := ⟨rfl, rfl, rfl, Nat.le_refl _, fun _ _ _ => rfl⟩
 exact ⟨rfl, h2, (g0.trans g1).trans g2⟩
theorem DiskIs.row_cells (h : DiskIs w d F N M free fuse bm D G C) (s : List UInt8) (hs : M s ≠ []) : ∃ cur, w.heap[G s]? = some (.cells cur 136 (0, 0)) := by
 rcases (h.2.2.2.2.2.1 s hs).2.1.2 with ⟨hv, _⟩ | ⟨g', c', cur, hv, _, hh, _⟩
 ·
  cases hv
 ·
  cases hv
  exact ⟨cur, hh⟩
theorem ranges_not {P : Program} {kT : TypeId} {R : Value → Option (DataW Unit × List MemPlace)} {b r n cnt : Nat} {left : Lit → Bool} (h : w.ranges P kT R b r n D left cnt) {g : Nat} {cur : Array Value} {t : TypeId} (hg : w.heap[g]? = some (.cells cur t (0, 0))) : b ≠ g ∧ r ≠ g := by
 obtain ⟨es, clock, since, seen, c0, h1, _, _, _, h2, _⟩ := h
 refine ⟨?_, ?_⟩
 ·
  rintro rfl
  rw [hg] at h1
  cases h1
 ·
  rintro rfl
  rw [hg] at h2
  cases h2
theorem KeptMap.not {b : Nat} {kf : List UInt8 → Int → Int} (h : KeptMap w b kf) {g : Nat} {cur : Array Value} {t : TypeId} (hg : w.heap[g]? = some (.cells cur t (0, 0))) : b ≠ g := by
 obtain ⟨N, D, ⟨es, clock, h1, _⟩, _⟩ := h
 rintro rfl
 rw [hg] at h1
 cases h1
end
end Go.Proofs.YtdppolelakbbiaaGreatDoor
