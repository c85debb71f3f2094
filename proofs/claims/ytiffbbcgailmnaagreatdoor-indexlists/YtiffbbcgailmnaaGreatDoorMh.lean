/- Labels out of bytes, plainly. -/
import Derived.Test.YtiffbbcgailmnaaGreatDoorLabEnc
import Derived.Test.YtiffbbcgailmnaaGreatDoorLabDrawn
namespace Go.Proofs.YtiffbbcgailmnaaGreatDoor
open Go.RowKit
set_option linter.unusedVariables false

def pieceN : List Nat → Option (List Nat × List Nat)
  | [] => none
  | n :: t => if t.length < n then none else some (t.take n, t.drop n)
def addL (d : List Lab) (q : List Lab × List Nat) : List Lab × List Nat := (d ++ q.1, q.2)
def decN : Nat → List Nat → Option (List Lab × List Nat)
  | 0, b => some ([], b)
  | k + 1, b => match pieceN b with
    | none => none
    | some (n, b1) => match pieceN b1 with
      | none => none
      | some (v, b2) => (decN k b2).map (addL [(strB n, strB v)])
def decP : List Nat → Option (List Lab × List Nat)
  | [] => none
  | n :: t => decN n t
theorem addL_nil : addL [] = id := by funext p; rfl
theorem map_addL (a b : List Lab) (o : Option (List Lab × List Nat)) : (o.map (addL b)).map (addL a) = o.map (addL (a ++ b)) := by
  cases o <;> simp [addL]
theorem pieceN_ext {b x r : List Nat} (h : pieceN b = some (x, r)) (y : List Nat) : pieceN (b ++ y) = some (x, r ++ y) := by
  cases b with
  | nil => cases h
  | cons n t =>
    simp only [pieceN] at h
    by_cases hl : t.length < n
    · rw [if_pos hl] at h; cases h
    · rw [if_neg hl] at h
      cases h
      simp only [List.cons_append, pieceN, List.length_append]
      rw [if_neg (by omega), List.take_append_of_le_length (by omega), List.drop_append_of_le_length (by omega)]
theorem decN_ext (k : Nat) : ∀ (b : List Nat) (ls : List Lab) (r : List Nat), decN k b = some (ls, r) → ∀ y, decN k (b ++ y) = some (ls, r ++ y) := by
  induction k with
  | zero => intro b ls r h y; simp only [decN] at h ⊢; cases h; rfl
  | succ k ih =>
    intro b ls r h y
    simp only [decN] at h ⊢
    cases hp : pieceN b with
    | none => rw [hp] at h; cases h
    | some p =>
      obtain ⟨n, b1⟩ := p
      rw [hp] at h
      rw [pieceN_ext hp y]
      simp only at h ⊢
      cases hq : pieceN b1 with
      | none => rw [hq] at h; cases h
      | some q =>
        obtain ⟨v, b2⟩ := q
        rw [hq] at h
        rw [pieceN_ext hq y]
        simp only at h ⊢
        cases hd : decN k b2 with
        | none => rw [hd] at h; cases h
        | some d =>
          obtain ⟨ls', r'⟩ := d
          rw [hd] at h
          rw [ih b2 ls' r' hd y]
          simp only [Option.map_some, addL, Option.some.injEq, Prod.mk.injEq] at h ⊢
          exact ⟨h.1, by rw [← h.2]⟩
theorem strB_sN (s : ByteArray) : strB (sN s) = s := by
  unfold strB sN
  cases s with
  | mk d =>
    simp only [List.map_map]
    have : (UInt8.ofNat ∘ UInt8.toNat) = id := by funext c; simp
    rw [this]
    simp
theorem pieceN_enc (s : ByteArray) (t : List Nat) : pieceN ([s.size] ++ sN s ++ t) = some (sN s, t) := by
  simp only [List.cons_append, List.nil_append, pieceN, List.length_append, sN_len]
  rw [if_neg (by omega), ← sN_len s, List.take_left, List.drop_left]
theorem decN_enc (ls : List Lab) : ∀ t : List Nat, decN ls.length (ls.flatMap encOne ++ t) = some (ls, t) := by
  induction ls with
  | nil => intro t; rfl
  | cons x r ih =>
    intro t
    have e : (x :: r).flatMap encOne ++ t = [x.1.size] ++ sN x.1 ++ ([x.2.size] ++ sN x.2 ++ (r.flatMap encOne ++ t)) := by
      simp [List.flatMap_cons, encOne]
    rw [e, List.length_cons]
    simp only [decN]
    rw [pieceN_enc]
    simp only
    rw [pieceN_enc]
    simp only
    rw [ih t, strB_sN, strB_sN]
    rfl
theorem encTo_flat (ls : List Lab) : ∀ k, k ≤ ls.length → encTo ls k = [ls.length] ++ (ls.take k).flatMap encOne := by
  intro k
  induction k with
  | zero => intro _; simp [encTo]
  | succ k ih =>
    intro hk
    rw [encTo, ih (by omega), List.take_succ_eq_append_getElem (by omega), List.flatMap_append, List.append_assoc]
    congr 2
    unfold labD
    rw [List.getD_eq_getElem?_getD, List.getElem?_eq_getElem (by omega)]
    simp
theorem encN_flat (ls : List Lab) : encN ls = ls.length :: ls.flatMap encOne := by
  unfold encN; rw [encTo_flat ls _ (Nat.le_refl _), List.take_length]; rfl
theorem decP_enc (ls : List Lab) (t : List Nat) : decP (encN ls ++ t) = some (ls, t) := by
  rw [encN_flat]; exact decN_enc ls t
/-- Bytes of labels that end too early. -/
theorem decP_cut (ls : List Lab) (m : Nat) (h : m < (encN ls).length) : decP ((encN ls).take m) = none := by
  have hx : (encN ls).take m ++ (encN ls).drop m = encN ls := List.take_append_drop m _
  have hn : (encN ls).drop m ≠ [] := by
    intro e
    have := congrArg List.length e
    simp at this; omega
  rw [encN_flat] at hx hn h ⊢
  cases m with
  | zero => rfl
  | succ m =>
    simp only [List.take_succ_cons, List.drop_succ_cons, List.cons_append, List.cons.injEq, true_and] at hx hn ⊢
    simp only [decP]
    cases hd : decN ls.length ((ls.flatMap encOne).take m) with
    | none => rfl
    | some p =>
      obtain ⟨l', r'⟩ := p
      have h1 := decN_ext _ _ _ _ hd ((ls.flatMap encOne).drop m)
      rw [List.take_append_drop] at h1
      have h2 := decN_enc ls []
      rw [List.append_nil] at h2
      rw [h2] at h1
      simp only [Option.some.injEq, Prod.mk.injEq] at h1
      have := List.append_eq_nil_iff.1 h1.2.symm
      exact absurd this.2 hn
/-- The state of a reading. -/
def decAt (d : List Lab) (k : Nat) (b : List Nat) : Option (List Lab × List Nat) := (decN k b).map (addL d)
theorem decAt_start (n : Nat) (t : List Nat) : decP (n :: t) = decAt [] n t := by simp [decP, decAt, addL_nil]
theorem decAt_end (d : List Lab) (b : List Nat) : decAt d 0 b = some (d, b) := by simp [decAt, decN, addL]
theorem decAt_none1 {d : List Lab} {k : Nat} {b : List Nat} (h : pieceN b = none) : decAt d (k + 1) b = none := by
  unfold decAt; simp only [decN]; rw [h]; rfl
theorem decAt_none2 {d : List Lab} {k : Nat} {b b1 n : List Nat} (h : pieceN b = some (n, b1)) (h' : pieceN b1 = none) : decAt d (k + 1) b = none := by
  unfold decAt; simp only [decN]; rw [h]; simp only; rw [h']; rfl
theorem decAt_step {d : List Lab} {k : Nat} {b b1 b2 n v : List Nat} (h : pieceN b = some (n, b1)) (h' : pieceN b1 = some (v, b2)) : decAt d (k + 1) b = decAt (d ++ [(strB n, strB v)]) k b2 := by
  unfold decAt; simp only [decN]; rw [h]; simp only; rw [h']; simp only; rw [map_addL]
theorem pieceN_lt {b x r : List Nat} (h : pieceN b = some (x, r)) (hb : ∀ y ∈ b, y < 256) : (∀ y ∈ x, y < 256) ∧ (∀ y ∈ r, y < 256) ∧ x.length ≤ b.length ∧ r.length ≤ b.length := by
  cases b with
  | nil => cases h
  | cons n t =>
    simp only [pieceN] at h
    by_cases hl : t.length < n
    · rw [if_pos hl] at h; cases h
    · rw [if_neg hl] at h
      cases h
      refine ⟨fun y hy => hb y (by simp [List.mem_of_mem_take hy]), fun y hy => hb y (by simp [List.mem_of_mem_drop hy]), ?_, ?_⟩
      · simp; omega
      · simp; omega
end Go.Proofs.YtiffbbcgailmnaaGreatDoor

namespace Go.Proofs.YtiffbbcgailmnaaGreatDoor
open Go.RowKit
set_option linter.unusedVariables false

theorem Bs.drew {w : World} {a : Option Addr} {len : Nat} {zs : List Nat} (h : Bs w a len zs) (n : Nat) : Bs (w.drewN n) a len zs := h.below (below_drewN (Below.refl _ _) n)
/-- A piece of a slice. -/
theorem Bs.part {w : World} {b off len i m : Nat} {zs : List Nat} (h : Bs w (some ⟨b, off, none⟩) len zs) (hi : i + m ≤ len) : Bs w (some ⟨b, off + i, none⟩) m ((zs.drop i).take m) := by
  obtain ⟨hl, hm, hz, hn, hc⟩ := h
  refine ⟨by simp; omega, by omega, fun x hx => hz x (List.mem_of_mem_drop (List.mem_of_mem_take hx)), (fun h => by cases h), fun x hx j hj => ?_⟩
  cases hx
  have := hc _ rfl (i + j) (by omega)
  rw [add_none] at this ⊢
  have e : ((zs.drop i).take m).getD j 0 = zs.getD (i + j) 0 := by
    rw [List.getD_eq_getElem?_getD, List.getD_eq_getElem?_getD, List.getElem?_take, if_pos hj, List.getElem?_drop]
  rw [show off + i + j = off + (i + j) from by omega, this, e]

theorem conv_run {o : Oper} {a : Act} {w : World} {s d : TypeId} {x : Operand} {vx v : Value} (ho : o.op = Op.convert s d x) (hx : a.eval x = vx) (hr : (convert s d vx).run Tryz.prog w = .ok v w) : (execOp a.eval o).run Tryz.prog w = .ok (.value v) w := by
  simp [execOp, ho, hx, hr, Result.andThen]

set_option maxHeartbeats 2000000 in
theorem take_none (a : Option Addr) (len cap : Nat) (zs : List Nat) (w : World) (h : Bs w a len zs) (hp : pieceN zs = none) :
    Calls Tryz.prog 78 #[.slice a len cap] w fun e w' => e = .returned (.tuple #[.string ⟨#[]⟩, .slice none 0 0, .bool false]) ∧ Below w.heap.size w w' := by
  have hl := h.1
  have hm := h.2.1
  unfold maxLen at hm
  cases zs with
  | nil =>
    simp at hl
    subst hl
    go_enter Tryz.func78, Tryz.ntmps78
    go_wp2
    exact bodyPost_ret (v := .tuple #[.string ⟨#[]⟩, .slice none 0 0, .bool false]) (by simp [results, Tryz.results78, go_sem]) rfl ⟨rfl, Below.refl _ _⟩
  | cons n t =>
    have hlt : t.length < n := by
      simp only [pieceN] at hp
      by_cases hl : t.length < n
      · exact hl
      · rw [if_neg hl] at hp; cases hp
    simp at hl
    obtain ⟨b, off, rfl, hbw, hc⟩ := h.pos (by omega)
    have c0 := hc 0 (by omega)
    simp at c0
    have hn := h.2.2.1 n (by simp)
    have g0 : ((len : Int) == 0) = false := beq_eq_false_iff_ne.2 (by omega)
    have g1 : (len : Int) - 1 < (n : Int) := by omega
    have g2 : (0 : Int) < (len : Int) := by omega
    have g3 : 0 < len := by omega
    have hlH := hidn hl
    clear hl hc h
    go_enter Tryz.func78, Tryz.ntmps78
    go_wp2
    exact bodyPost_ret (v := .tuple #[.string ⟨#[]⟩, .slice none 0 0, .bool false]) (by simp [results, Tryz.results78, go_sem]) rfl ⟨rfl, Below.refl _ _⟩

set_option maxHeartbeats 2000000 in
set_option maxRecDepth 100000 in
theorem take_some (a : Option Addr) (len cap : Nat) (zs x r : List Nat) (w : World) (h : Bs w a len zs) (hcap : len ≤ cap) (hcm : cap ≤ maxLen) (hp : pieceN zs = some (x, r)) :
    Calls Tryz.prog 78 #[.slice a len cap] w fun e w' => ∃ a' cap', e = .returned (.tuple #[.string (strB x), .slice a' r.length cap', .bool true]) ∧ (∀ W, Bs W a len zs → Bs W a' r.length r) ∧ r.length ≤ cap' ∧ cap' ≤ maxLen ∧ a' ≠ none ∧ Below w.heap.size w w' := by
  have hl := h.1
  have hm := h.2.1
  unfold maxLen at hm
  cases zs with
  | nil => cases hp
  | cons n t =>
    have hlt : ¬ t.length < n := by
      intro hl
      simp only [pieceN] at hp
      rw [if_pos hl] at hp; cases hp
    simp only [pieceN] at hp
    rw [if_neg hlt] at hp
    simp only [Option.some.injEq, Prod.mk.injEq] at hp
    obtain ⟨rfl, rfl⟩ := hp
    simp at hl
    obtain ⟨b, off, rfl, hbw, hc⟩ := h.pos (by omega)
    have c0 := hc 0 (by omega)
    simp at c0
    have hn := h.2.2.1 n (by simp)
    have g0 : ((len : Int) == 0) = false := beq_eq_false_iff_ne.2 (by omega)
    have g1 : ¬ (len : Int) - 1 < (n : Int) := by omega
    have g2 : (0 : Int) < (len : Int) := by omega
    have g3 : 0 < len := by omega
    obtain ⟨aX, haX⟩ : ∃ aX, (if cap = 1 then some (⟨b, off, none⟩ : Addr) else some ⟨b, off + 1, none⟩) = aX := ⟨_, rfl⟩
    have HX : Hid (Bs w aX n (t.take n)) := hidn (by
      rw [← haX]
      split
      · obtain rfl : n = 0 := by omega
        exact ⟨by simp, Nat.zero_le _, by simp, (fun _ => rfl), fun x hx j hj => by omega⟩
      · exact h.part (i := 1) (m := n) (by omega))
    have hrl : (t.drop n).length = len - (1 + n) := by simp; omega
    obtain ⟨e, he⟩ : ∃ e, e = 1 + n := ⟨_, rfl⟩
    obtain ⟨aR, haR⟩ : ∃ aR, (if cap = e then some (⟨b, off, none⟩ : Addr) else some ⟨b, off + e, none⟩) = aR := ⟨_, rfl⟩
    have HR : Hid (∀ W, Bs W (some ⟨b, off, none⟩) len (n :: t) → Bs W aR (t.drop n).length (t.drop n)) := hidn (by
      intro W h
      rw [← haR]
      split
      · have h0 : (t.drop n) = [] := List.drop_of_length_le (by omega)
        rw [h0]
        exact ⟨by simp, Nat.zero_le _, by simp, (fun _ => rfl), fun x hx j hj => by simp at hj⟩
      · have := h.part (i := 1 + n) (m := len - (1 + n)) (by omega)
        rw [hrl, he]
        rw [show 1 + n = n + 1 from by omega, List.drop_succ_cons, List.take_of_length_le (by simp; omega)] at this
        rw [show 1 + n = n + 1 from by omega]; exact this)
    have HE := hidn he
    have hne : (1 : Int) + (n : Int) = (e : Int) := by omega
    have he1 : 1 ≤ e := by omega
    have he6 : (1 : Int) ≤ (e : Int) := by omega
    have hx1 : (if cap = 1 then some (⟨b, off, none⟩ : Addr) else some ⟨b, off + 1, none⟩) = aX := haX
    have he2 : e ≤ len := by omega
    have he3 : e ≤ cap := by omega
    have he4 : (e : Int) - 1 = (n : Int) := by omega
    have he5 : e - 1 = n := by omega
    have hlH := hidn hl
    have HRL := hidn hrl
    clear hl hc h he hrl hlt
    go_enter Tryz.func78, Tryz.ntmps78
    go_wp2
    refine wp_region_noPanic ?_
    refine wp_region_held_drew (S := fun w' => Bs w' aX n (t.take n)) (by kernel_rfl) (HX.out.drew 1) (fun hHeld => ?_)
    refine drawn_take (i := 0) (v := .slice (some ⟨b, off, none⟩) len cap) (some 24) rfl rfl (by kernel_rfl) (by kernel_rfl) (by kernel_rfl) (fun _ _ _ h => h) (Or.inl ⟨by kernel_rfl, fun wq hw => by go_simp⟩) hHeld ?_
    simp only [Act.put, List.setIfInBounds_toArray, List.set_cons_succ, List.set_cons_zero]
    refine drawn_take (i := 1) (v := .int .i64 (e : Int)) (some 25) rfl rfl (by kernel_rfl) (by kernel_rfl) (by kernel_rfl) (fun _ _ _ h => h) (Or.inl ⟨by kernel_rfl, fun wq hw => by go_simp⟩) hHeld ?_
    simp only [Act.put, List.setIfInBounds_toArray, List.set_cons_succ, List.set_cons_zero]
    refine drawn_take (i := 2) (v := .slice aX n (cap - 1)) (some 26) rfl rfl (by kernel_rfl) (by kernel_rfl) (by kernel_rfl) (fun _ _ _ h => h) (Or.inl ⟨by kernel_rfl, fun wq hw => by go_simp⟩) hHeld ?_
    simp only [Act.put, List.setIfInBounds_toArray, List.set_cons_succ, List.set_cons_zero]
    refine drawn_take (i := 3) (v := .string (strB (t.take n))) (some 27) rfl rfl (by kernel_rfl) (by kernel_rfl) (by kernel_rfl) (fun _ _ _ h => h) (Or.inl ⟨by kernel_rfl, fun wq hw => conv_run (s := 30) (d := 9) (x := .tmp 26) (vx := .slice aX n (cap - 1)) (by kernel_rfl) (by kernel_rfl) hw.str⟩) hHeld ?_
    simp only [Act.put, List.setIfInBounds_toArray, List.set_cons_succ, List.set_cons_zero]
    refine drawn_take (i := 4) (v := .slice (some ⟨b, off, none⟩) len cap) (some 28) rfl rfl (by kernel_rfl) (by kernel_rfl) (by kernel_rfl) (fun _ _ _ h => h) (Or.inl ⟨by kernel_rfl, fun wq hw => by go_simp⟩) hHeld ?_
    simp only [Act.put, List.setIfInBounds_toArray, List.set_cons_succ, List.set_cons_zero]
    refine drawn_take (i := 5) (v := .int .i64 (e : Int)) (some 29) rfl rfl (by kernel_rfl) (by kernel_rfl) (by kernel_rfl) (fun _ _ _ h => h) (Or.inl ⟨by kernel_rfl, fun wq hw => by go_simp⟩) hHeld ?_
    simp only [Act.put, List.setIfInBounds_toArray, List.set_cons_succ, List.set_cons_zero]
    refine drawn_take (i := 6) (v := .slice aR (len - e) (cap - e)) (some 30) rfl rfl (by kernel_rfl) (by kernel_rfl) (by kernel_rfl) (fun _ _ _ h => h) (Or.inl ⟨by kernel_rfl, fun wq hw => by go_simp⟩) hHeld ?_
    simp only [Act.put, List.setIfInBounds_toArray, List.set_cons_succ, List.set_cons_zero]
    refine drawn_take (i := 7) (v := .string (strB (t.take n))) (some 2) rfl rfl (by kernel_rfl) (by kernel_rfl) (by kernel_rfl) (fun _ _ _ h => h) (Or.inl ⟨by kernel_rfl, fun wq hw => by go_simp⟩) hHeld ?_
    simp only [Act.put, List.setIfInBounds_toArray, List.set_cons_succ, List.set_cons_zero]
    refine drawn_take (i := 8) (v := .slice aR (len - e) (cap - e)) (some 3) rfl rfl (by kernel_rfl) (by kernel_rfl) (by kernel_rfl) (fun _ _ _ h => h) (Or.inl ⟨by kernel_rfl, fun wq hw => by go_simp⟩) hHeld ?_
    simp only [Act.put, List.setIfInBounds_toArray, List.set_cons_succ, List.set_cons_zero]
    refine drawn_take (i := 9) (v := .bool true) (some 4) rfl rfl (by kernel_rfl) (by kernel_rfl) (by kernel_rfl) (fun _ _ _ h => h) (Or.inl ⟨by kernel_rfl, fun wq hw => by go_simp⟩) hHeld ?_
    simp only [Act.put, List.setIfInBounds_toArray, List.set_cons_succ, List.set_cons_zero]
    refine wpAnyH_done (by kernel_rfl) ?_ _
    refine NoPanic.normal ?_
    clear hHeld
    have HF := HR
    have HNE : Hid (aR ≠ none) := hidn (by rw [← haR]; split <;> simp)
    have hle : (t.drop n).length = len - e := by rw [HRL.out, HE.out]
    have HLE := hidn hle
    have hmc : (t.drop n).length ≤ cap - e := by omega
    have hmm : cap - e ≤ maxLen := by omega
    clear hle
    go_wp2
    exact bodyPost_ret (v := .tuple #[.string (strB (t.take n)), .slice aR (len - e) (cap - e), .bool true]) (by simp [results, Tryz.results78, go_sem]) rfl ⟨_, _, by rw [HLE.out], HF.out, hmc, hmm, HNE.out, (Below.refl _ _).drew⟩
end Go.Proofs.YtiffbbcgailmnaaGreatDoor
