/- labels.Parse at a text of labels that may be. -/
import Derived.Test.YtkcmaneibfambaaLabUnq
import Derived.Test.YtkcmaneibfambaaLabText
import Derived.Test.YtkcmaneibfambaaLabRefDec
import Derived.Test.YtkcmaneibfambaaLabRefQuote
import Derived.Test.YtkcmaneibfambaaLabShelf2
namespace Go.Proofs.Ytkcmaneibfambaa
open Go.RowKit Go.Joins
set_option linter.unusedVariables false

theorem idx_at (n t : List UInt8) (h : ∀ c ∈ n, c ≠ 61) : Lib.indexByte (n ++ 61 :: t) 61 = (n.length : Int) := by
  induction n with
  | nil => rfl
  | cons c r ih =>
    have hc := h c (by simp)
    have h1 := ih (fun x hx => h x (by simp [hx]))
    simp only [List.cons_append, Lib.indexByte, h1]
    have h2 : (c == 61) = false := beq_eq_false_iff_ne.2 hc
    have h3 : ((r.length : Int) == -1) = false := beq_eq_false_iff_ne.2 (by omega)
    simp only [h2, h3, Bool.false_eq_true, if_false, List.length_cons]
    omega

set_option maxHeartbeats 2000000 in
set_option maxRecDepth 100000 in
theorem scut_at (s : ByteArray) (k : Nat) (w : World) (hs : s.size ≤ 1099511627776) (hk : k < s.size) (hi : Lib.indexByte s.data.toList 61 = (k : Int)) :
    Calls Try.prog 60 #[.string s, .string ⟨#[61]⟩] w fun e w' => e = .returned (.tuple #[.string (s.extract 0 k), .string (s.extract (k + 1) s.size), .bool true]) ∧ Below w.heap.size w w' := by
  obtain ⟨q, hq⟩ : ∃ q, q = k + 1 := ⟨_, rfl⟩
  have HQ := hidn hq
  have hkq : (k : Int) + 1 = (q : Int) := by omega
  have hq2 : q ≤ s.size := by omega
  have hk2 : k ≤ s.size := by omega
  have g0 : (0 : Int) ≤ (k : Int) := by omega
  have g1 : (0 : Int) ≤ (q : Int) := by omega
  rw [← hq]
  clear hq
  go_enter Try.func60, Try.ntmps60
  go_wp2_with fail
  refine (Try.stringslite_Index_one s 61 _).mono ?_
  rintro e w1 ⟨rfl, rfl⟩
  rw [hi]
  go_wp2
  go_quiet (fail)
  go_wp2
  exact bodyPost_ret (v := .tuple #[.string (s.extract 0 k), .string (s.extract q s.size), .bool true]) (by simp [results, Try.results60, go_sem]) rfl ⟨rfl, below_drewN (Below.refl _ _) _⟩

set_option maxHeartbeats 1000000 in
theorem cut_at (s : ByteArray) (k : Nat) (w : World) (hs : s.size ≤ 1099511627776) (hk : k < s.size) (hi : Lib.indexByte s.data.toList 61 = (k : Int)) :
    Calls Try.prog 56 #[.string s, .string ⟨#[61]⟩] w fun e w' => e = .returned (.tuple #[.string (s.extract 0 k), .string (s.extract (k + 1) s.size), .bool true]) ∧ Below w.heap.size w w' := by
  go_enter Try.func56, Try.ntmps56
  go_wp2_with fail
  refine (scut_at s k _ hs hk hi).mono ?_
  rintro e w1 ⟨rfl, b1⟩
  go_wp2
  exact bodyPost_ret (v := .tuple #[.string (s.extract 0 k), .string (s.extract (k + 1) s.size), .bool true]) (by simp [results, Try.results56, go_sem]) rfl ⟨rfl, b1⟩

set_option maxHeartbeats 2000000 in
set_option maxRecDepth 100000 in
/-- A label's text with anything behind. -/
theorem take_label (n v : ByteArray) (r : List UInt8) (s : ByteArray) (w : World) (hs : s.size ≤ 1048576) (hn : ∀ c ∈ n.data.toList, c ≠ 61) (he : s.data.toList = n.data.toList ++ 61 :: (quoted v ++ r)) :
    Calls Try.prog 46 #[.string s] w fun e w' => e = .returned (.tuple #[.agg #[.string n, .string v], .string ⟨r.toArray⟩, .bool true]) ∧ Below w.heap.size w w' := by
  have hsl := Lib.size_eq s
  rw [he] at hsl
  simp only [List.length_append, List.length_cons] at hsl
  have hnl := Lib.size_eq n
  have hi : Lib.indexByte s.data.toList 61 = (n.size : Int) := by rw [he, idx_at _ _ hn, hnl]
  have e1 : s.extract 0 n.size = n := by
    rw [Lib.extract_eq, he, List.drop_zero, hnl]
    rw [show n.data.toList.length - 0 = n.data.toList.length from by omega, List.take_left, Lib.mk_data]
  have e2 : (s.extract (n.size + 1) s.size).data.toList = quoted v ++ r := by
    rw [Lib.extract_data, he]
    rw [show n.data.toList ++ 61 :: (quoted v ++ r) = (n.data.toList ++ [61]) ++ (quoted v ++ r) from by simp]
    rw [show n.size + 1 = (n.data.toList ++ [61]).length from by simp]
    rw [List.drop_left, List.take_of_length_le (by simp; omega)]
  have hsz2 : (s.extract (n.size + 1) s.size).size ≤ 1099511627776 := by rw [ByteArray.size_extract]; omega
  have hO : uqO (s.extract (n.size + 1) s.size) = some (v.data.toList, r) := by
    have e3 : (s.extract (n.size + 1) s.size).data.toList = 34 :: (quoteL v.data.toList ++ 34 :: r) := by rw [e2]; simp [quoted]
    rw [uqO_cons e3, unqS_quote]
  obtain ⟨k1, k2, k3⟩ := uq_some hO
  rw [Lib.mk_data] at k1
  have K1 := hidn k1
  have K2 := hidn k2
  have K3 := hidn k3
  have E1 := hidn e1
  have hlt : n.size < s.size := by omega
  have hs' : s.size ≤ 1099511627776 := by omega
  clear k1 k2 k3 e1 e2 hO hsl hnl he
  go_enter Try.func46, Try.ntmps46
  go_wp2_with fail
  refine (cut_at s n.size _ hs' hlt hi).mono ?_
  rintro e w1 ⟨rfl, b1⟩
  rw [E1.out]
  have q0 : w1.heap[w.heap.size]? = some (.cells #[.string ⟨#[]⟩, .string ⟨#[]⟩] 39 (0, 0)) := by
    rw [b1.block w.heap.size (by rw [alloc_size]; omega)]; exact alloc_at w _
  have B1 : Below w.heap.size w w1 := below_new _ (b1.mono (by rw [alloc_size]; omega))
  clear hi hn
  generalize hE : s.extract (n.size + 1) s.size = E at *
  go_wp2_with fail
  refine (unq_any E _ hsz2).mono ?_
  rintro e w2 ⟨rfl, b2⟩
  rw [K1.out, K2.out, K3.out]
  have B2 := B1.trans (b2.mono B1.size)
  have q1 : w2.heap[w.heap.size]? = some (.cells #[.string ⟨#[]⟩, .string ⟨#[]⟩] 39 (0, 0)) := by
    rw [b2.block w.heap.size (Array.getElem?_eq_some_iff.1 q0).1]; exact q0
  have c0 : w2.cell? ⟨w.heap.size, 0, none⟩ = some (.string ⟨#[]⟩) := cell_at q1
  have c1 : w2.cell? ⟨w.heap.size, 1, none⟩ = some (.string ⟨#[]⟩) := cell_at q1
  have f0 : w2.frozen? ⟨w.heap.size, 0, none⟩ = false := unfrozen_of_block q1 _
  have f1 : w2.frozen? ⟨w.heap.size, 1, none⟩ = false := unfrozen_of_block q1 _
  have qz : ((0 : Int) == 0) = true := rfl
  have q2 := block_setCell (i := 1) (block_setCell (i := 0) q1 (.string n)) (.string v)
  have d0 : ((w2.setCell ⟨w.heap.size, 0, none⟩ (.string n)).setCell ⟨w.heap.size, 1, none⟩ (.string v)).cell? ⟨w.heap.size, 0, none⟩ = some (.string n) := by rw [cell_of_block q2]; rfl
  have d1 : ((w2.setCell ⟨w.heap.size, 0, none⟩ (.string n)).setCell ⟨w.heap.size, 1, none⟩ (.string v)).cell? ⟨w.heap.size, 1, none⟩ = some (.string v) := by rw [cell_of_block q2]; rfl
  have B3 : Below w.heap.size w ((w2.setCell ⟨w.heap.size, 0, none⟩ (.string n)).setCell ⟨w.heap.size, 1, none⟩ (.string v)) := (B2.setCell (p := ⟨w.heap.size, 0, none⟩) (Nat.le_refl _) _).setCell (p := ⟨w.heap.size, 1, none⟩) (Nat.le_refl _) _
  go_wp2
  exact bodyPost_ret (v := .tuple #[.agg #[.string n, .string v], .string ⟨r.toArray⟩, .bool true]) (by simp [results, Try.results46, go_sem, d0, d1]) rfl ⟨rfl, B3⟩
end Go.Proofs.Ytkcmaneibfambaa
