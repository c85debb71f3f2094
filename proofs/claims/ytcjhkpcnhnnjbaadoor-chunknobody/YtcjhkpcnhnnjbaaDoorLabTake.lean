/- labels.takeText: a contract at any bytes. -/
import Derived.Test.YtcjhkpcnhnnjbaaDoorLabDecMath
import Derived.Test.YtcjhkpcnhnnjbaaDoorLabDrawn
namespace Go.Proofs.YtcjhkpcnhnnjbaaDoor
open Go.RowKit
set_option linter.unusedVariables false

theorem Bs.drew {w : World} {a : Option Addr} {len : Nat} {zs : List Nat} (h : Bs w a len zs) (n : Nat) : Bs (w.drewN n) a len zs := h.below (below_drewN (Below.refl _ _) n)
/-- A piece of a slice. -/
theorem Bs.part {w : World} {b off len i m : Nat} {zs : List Nat} (h : Bs w (some ⟨b, off, none⟩) len zs) (hi : i + m ≤ len) : Bs w (some ⟨b, off + i, none⟩) m ((zs.drop i).take m) := by
  obtain ⟨hl, hm, hz, hn, hc⟩ := h
  refine ⟨by simp; omega, by omega, fun x hx => hz x (List.mem_of_mem_drop (List.mem_of_mem_take hx)), (fun h => by cases h), fun x hx j hj => ?_⟩
  cases hx
  have := hc _ rfl (i + j) (by omega)
  rw [add_none] at this ⊢
  have e : ((zs.drop i).take m).getD j 0 = zs.getD (i + j) 0 := by
    rw [List.getD_eq_getElem?_getD, List.getD_eq_getElem?_getD, List.getElem?_take, if_pos hj, List.getElem?_drop]
  rw [show off + i + j = off + (i + j) from by omega, this, e]

theorem conv_run {o : Oper} {a : Act} {w : World} {s d : TypeId} {x : Operand} {vx v : Value} (ho : o.op = Op.convert s d x) (hx : a.eval x = vx) (hr : (convert s d vx).run Tryd.prog w = .ok v w) : (execOp a.eval o).run Tryd.prog w = .ok (.value v) w := by
  simp [execOp, ho, hx, hr, Result.andThen]

set_option maxHeartbeats 2000000 in
theorem take_none (a : Option Addr) (len cap : Nat) (zs : List Nat) (w : World) (h : Bs w a len zs) (hp : pieceN zs = none) :
    Calls Tryd.prog 94 #[.slice a len cap] w fun e w' => e = .returned (.tuple #[.string ⟨#[]⟩, .slice none 0 0, .bool false]) ∧ Below w.heap.size w w' := by
  have hl := h.1
  have hm := h.2.1
  unfold maxLen at hm
  cases zs with
  | nil =>
    simp at hl
    subst hl
    go_enter Tryd.func94, Tryd.ntmps94
    go_wp2
    exact bodyPost_ret (v := .tuple #[.string ⟨#[]⟩, .slice none 0 0, .bool false]) (by simp [results, Tryd.results94, go_sem]) rfl ⟨rfl, Below.refl _ _⟩
  | cons n t =>
    have hlt : t.length < n := by
      simp only [pieceN] at hp
      by_cases hl : t.length < n
      · exact hl
      · rw [if_neg hl] at hp; cases hp
    simp at hl
    obtain ⟨b, off, rfl, hbw, hc⟩ := h.pos (by omega)
    have c0 := hc 0 (by omega)
    simp at c0
    have hn := h.2.2.1 n (by simp)
    have g0 : ((len : Int) == 0) = false := beq_eq_false_iff_ne.2 (by omega)
    have g1 : (len : Int) - 1 < (n : Int) := by omega
    have g2 : (0 : Int) < (len : Int) := by omega
    have g3 : 0 < len := by omega
    have hlH := hidn hl
    clear hl hc h
    go_enter Tryd.func94, Tryd.ntmps94
    go_wp2
    exact bodyPost_ret (v := .tuple #[.string ⟨#[]⟩, .slice none 0 0, .bool false]) (by simp [results, Tryd.results94, go_sem]) rfl ⟨rfl, Below.refl _ _⟩

set_option maxHeartbeats 2000000 in
set_option maxRecDepth 100000 in
theorem take_some (a : Option Addr) (len cap : Nat) (zs x r : List Nat) (w : World) (h : Bs w a len zs) (hcap : len ≤ cap) (hcm : cap ≤ maxLen) (hp : pieceN zs = some (x, r)) :
    Calls Tryd.prog 94 #[.slice a len cap] w fun e w' => ∃ a' cap', e = .returned (.tuple #[.string (strB x), .slice a' r.length cap', .bool true]) ∧ (∀ W, Bs W a len zs → Bs W a' r.length r) ∧ r.length ≤ cap' ∧ cap' ≤ maxLen ∧ a' ≠ none ∧ Below w.heap.size w w' := by
  have hl := h.1
  have hm := h.2.1
  unfold maxLen at hm
  cases zs with
  | nil => cases hp
  | cons n t =>
    have hlt : ¬ t.length < n := by
      intro hl
      simp only [pieceN] at hp
      rw [if_pos hl] at hp; cases hp
    simp only [pieceN] at hp
    rw [if_neg hlt] at hp
    simp only [Option.some.injEq, Prod.mk.injEq] at hp
    obtain ⟨rfl, rfl⟩ := hp
    simp at hl
    obtain ⟨b, off, rfl, hbw, hc⟩ := h.pos (by omega)
    have c0 := hc 0 (by omega)
    simp at c0
    have hn := h.2.2.1 n (by simp)
    have g0 : ((len : Int) == 0) = false := beq_eq_false_iff_ne.2 (by omega)
    have g1 : ¬ (len : Int) - 1 < (n : Int) := by omega
    have g2 : (0 : Int) < (len : Int) := by omega
    have g3 : 0 < len := by omega
    obtain ⟨aX, haX⟩ : ∃ aX, (if cap = 1 then some (⟨b, off, none⟩ : Addr) else some ⟨b, off + 1, none⟩) = aX := ⟨_, rfl⟩
    have HX : Hid (Bs w aX n (t.take n)) := hidn (by
      rw [← haX]
      split
      · obtain rfl : n = 0 := by omega
        exact ⟨by simp, Nat.zero_le _, by simp, (fun _ => rfl), fun x hx j hj => by omega⟩
      · exact h.part (i := 1) (m := n) (by omega))
    have hrl : (t.drop n).length = len - (1 + n) := by simp; omega
    obtain ⟨e, he⟩ : ∃ e, e = 1 + n := ⟨_, rfl⟩
    obtain ⟨aR, haR⟩ : ∃ aR, (if cap = e then some (⟨b, off, none⟩ : Addr) else some ⟨b, off + e, none⟩) = aR := ⟨_, rfl⟩
    have HR : Hid (∀ W, Bs W (some ⟨b, off, none⟩) len (n :: t) → Bs W aR (t.drop n).length (t.drop n)) := hidn (by
      intro W h
      rw [← haR]
      split
      · have h0 : (t.drop n) = [] := List.drop_of_length_le (by omega)
        rw [h0]
        exact ⟨by simp, Nat.zero_le _, by simp, (fun _ => rfl), fun x hx j hj => by simp at hj⟩
      · have := h.part (i := 1 + n) (m := len - (1 + n)) (by omega)
        rw [hrl, he]
        rw [show 1 + n = n + 1 from by omega, List.drop_succ_cons, List.take_of_length_le (by simp; omega)] at this
        rw [show 1 + n = n + 1 from by omega]; exact this)
    have HE := hidn he
    have hne : (1 : Int) + (n : Int) = (e : Int) := by omega
    have he1 : 1 ≤ e := by omega
    have he6 : (1 : Int) ≤ (e : Int) := by omega
    have hx1 : (if cap = 1 then some (⟨b, off, none⟩ : Addr) else some ⟨b, off + 1, none⟩) = aX := haX
    have he2 : e ≤ len := by omega
    have he3 : e ≤ cap := by omega
    have he4 : (e : Int) - 1 = (n : Int) := by omega
    have he5 : e - 1 = n := by omega
    have hlH := hidn hl
    have HRL := hidn hrl
    clear hl hc h he hrl hlt
    go_enter Tryd.func94, Tryd.ntmps94
    go_wp2
    refine wp_region_noPanic ?_
    refine wp_region_held_drew (S := fun w' => Bs w' aX n (t.take n)) (by kernel_rfl) (HX.out.drew 1) (fun hHeld => ?_)
    refine drawn_take (i := 0) (v := .slice (some ⟨b, off, none⟩) len cap) (some 24) rfl rfl (by kernel_rfl) (by kernel_rfl) (by kernel_rfl) (fun _ _ _ h => h) (Or.inl ⟨by kernel_rfl, fun wq hw => by go_simp⟩) hHeld ?_
    simp only [Act.put, List.setIfInBounds_toArray, List.set_cons_succ, List.set_cons_zero]
    refine drawn_take (i := 1) (v := .int .i64 (e : Int)) (some 25) rfl rfl (by kernel_rfl) (by kernel_rfl) (by kernel_rfl) (fun _ _ _ h => h) (Or.inl ⟨by kernel_rfl, fun wq hw => by go_simp⟩) hHeld ?_
    simp only [Act.put, List.setIfInBounds_toArray, List.set_cons_succ, List.set_cons_zero]
    refine drawn_take (i := 2) (v := .slice aX n (cap - 1)) (some 26) rfl rfl (by kernel_rfl) (by kernel_rfl) (by kernel_rfl) (fun _ _ _ h => h) (Or.inl ⟨by kernel_rfl, fun wq hw => by go_simp⟩) hHeld ?_
    simp only [Act.put, List.setIfInBounds_toArray, List.set_cons_succ, List.set_cons_zero]
    refine drawn_take (i := 3) (v := .string (strB (t.take n))) (some 27) rfl rfl (by kernel_rfl) (by kernel_rfl) (by kernel_rfl) (fun _ _ _ h => h) (Or.inl ⟨by kernel_rfl, fun wq hw => conv_run (s := 24) (d := 9) (x := .tmp 26) (vx := .slice aX n (cap - 1)) (by kernel_rfl) (by kernel_rfl) hw.str⟩) hHeld ?_
    simp only [Act.put, List.setIfInBounds_toArray, List.set_cons_succ, List.set_cons_zero]
    refine drawn_take (i := 4) (v := .slice (some ⟨b, off, none⟩) len cap) (some 28) rfl rfl (by kernel_rfl) (by kernel_rfl) (by kernel_rfl) (fun _ _ _ h => h) (Or.inl ⟨by kernel_rfl, fun wq hw => by go_simp⟩) hHeld ?_
    simp only [Act.put, List.setIfInBounds_toArray, List.set_cons_succ, List.set_cons_zero]
    refine drawn_take (i := 5) (v := .int .i64 (e : Int)) (some 29) rfl rfl (by kernel_rfl) (by kernel_rfl) (by kernel_rfl) (fun _ _ _ h => h) (Or.inl ⟨by kernel_rfl, fun wq hw => by go_simp⟩) hHeld ?_
    simp only [Act.put, List.setIfInBounds_toArray, List.set_cons_succ, List.set_cons_zero]
    refine drawn_take (i := 6) (v := .slice aR (len - e) (cap - e)) (some 30) rfl rfl (by kernel_rfl) (by kernel_rfl) (by kernel_rfl) (fun _ _ _ h => h) (Or.inl ⟨by kernel_rfl, fun wq hw => by go_simp⟩) hHeld ?_
    simp only [Act.put, List.setIfInBounds_toArray, List.set_cons_succ, List.set_cons_zero]
    refine drawn_take (i := 7) (v := .string (strB (t.take n))) (some 2) rfl rfl (by kernel_rfl) (by kernel_rfl) (by kernel_rfl) (fun _ _ _ h => h) (Or.inl ⟨by kernel_rfl, fun wq hw => by go_simp⟩) hHeld ?_
    simp only [Act.put, List.setIfInBounds_toArray, List.set_cons_succ, List.set_cons_zero]
    refine drawn_take (i := 8) (v := .slice aR (len - e) (cap - e)) (some 3) rfl rfl (by kernel_rfl) (by kernel_rfl) (by kernel_rfl) (fun _ _ _ h => h) (Or.inl ⟨by kernel_rfl, fun wq hw => by go_simp⟩) hHeld ?_
    simp only [Act.put, List.setIfInBounds_toArray, List.set_cons_succ, List.set_cons_zero]
    refine drawn_take (i := 9) (v := .bool true) (some 4) rfl rfl (by kernel_rfl) (by kernel_rfl) (by kernel_rfl) (fun _ _ _ h => h) (Or.inl ⟨by kernel_rfl, fun wq hw => by go_simp⟩) hHeld ?_
    simp only [Act.put, List.setIfInBounds_toArray, List.set_cons_succ, List.set_cons_zero]
    refine wpAnyH_done (by kernel_rfl) ?_ _
    refine NoPanic.normal ?_
    clear hHeld
    have HF := HR
    have HNE : Hid (aR ≠ none) := hidn (by rw [← haR]; split <;> simp)
    have hle : (t.drop n).length = len - e := by rw [HRL.out, HE.out]
    have HLE := hidn hle
    have hmc : (t.drop n).length ≤ cap - e := by omega
    have hmm : cap - e ≤ maxLen := by omega
    clear hle
    go_wp2
    exact bodyPost_ret (v := .tuple #[.string (strB (t.take n)), .slice aR (len - e) (cap - e), .bool true]) (by simp [results, Tryd.results94, go_sem]) rfl ⟨_, _, by rw [HLE.out], HF.out, hmc, hmm, HNE.out, (Below.refl _ _).drew⟩
end Go.Proofs.YtcjhkpcnhnnjbaaDoor
