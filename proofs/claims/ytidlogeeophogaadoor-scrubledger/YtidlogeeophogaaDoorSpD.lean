/- scrub.compareSpots. -/
import Derived.Test.YtidlogeeophogaaDoorSpC
import Derived.BigQuiet
import Derived.Shelf.Abstract
import Derived.BigCall
import Derived.Deep.QuietTactic
import Derived.Sort.Grow
namespace Go.Proofs.YtidlogeeophogaaDoor.Sp
open Go.RowKit Go.Shelf Go.Sort
set_option linter.unusedVariables false

theorem less_irrefl (l : List UInt8) : Op.bytesLess l l = false := by
  induction l with
  | nil => rfl
  | cons a t ih => simp [Op.bytesLess, ih]

theorem less_total (x : List UInt8) : ∀ y, Op.bytesLess x y = false → Op.bytesLess y x = false → x = y := by
  induction x with
  | nil => intro y; cases y <;> simp [Op.bytesLess]
  | cons a t ih =>
    intro y h1 h2
    cases y with
    | nil => simp [Op.bytesLess] at h2
    | cons b u =>
      simp only [Op.bytesLess, Bool.or_eq_false_iff, Bool.and_eq_false_iff, decide_eq_false_iff_not, beq_eq_false_iff_ne] at h1 h2
      have hab : a = b := by
        have := UInt8.le_antisymm (UInt8.not_lt.1 h1.1) (UInt8.not_lt.1 h2.1)
        exact this.symm
      subst hab
      rw [ih u (by rcases h1.2 with h | h; exact absurd rfl h; exact h) (by rcases h2.2 with h | h; exact absurd rfl h; exact h)]

theorem less_trans (x : List UInt8) : ∀ y z, Op.bytesLess x y = true → Op.bytesLess y z = true → Op.bytesLess x z = true := by
  induction x with
  | nil => intro y z h1 h2; cases z <;> cases y <;> simp_all [Op.bytesLess]
  | cons a t ih =>
    intro y z h1 h2
    cases y with
    | nil => simp [Op.bytesLess] at h1
    | cons b u =>
      cases z with
      | nil => simp [Op.bytesLess] at h2
      | cons c v =>
        simp only [Op.bytesLess, Bool.or_eq_true, Bool.and_eq_true, decide_eq_true_eq, beq_iff_eq] at h1 h2 ⊢
        rcases h1 with h1 | ⟨rfl, h1⟩
        · rcases h2 with h2 | ⟨rfl, h2⟩
          · exact .inl (UInt8.lt_trans h1 h2)
          · exact .inl h1
        · rcases h2 with h2 | ⟨rfl, h2⟩
          · exact .inl h2
          · exact .inr ⟨rfl, ih u v h1 h2⟩

theorem less_asymm (x y : List UInt8) (h : Op.bytesLess x y = true) : Op.bytesLess y x = false := by
  rw [Bool.eq_false_iff]; intro h2
  have := less_trans x y x h h2
  rw [less_irrefl] at this; cases this

/-- Texts held against each other, and labels. -/

def cmpB (x y : List UInt8) : Int := if Op.bytesLess x y then -1 else if Op.bytesLess y x then 1 else 0

def cmpS (a b : ByteArray) : Int := cmpB a.toList b.toList

theorem cmpB_self (x : List UInt8) : cmpB x x = 0 := by unfold cmpB; simp [less_irrefl]

set_option maxHeartbeats 1000000 in
theorem nan_any (a : ByteArray) (w : World) :
    Calls Tryd.prog 92 #[.string a] w fun e w' => e = .returned (.bool false) ∧ w' = w := by
  have h : (a.toList == a.toList) = true := beq_iff_eq.2 rfl
  go_enter Tryd.func92, Tryd.ntmps92
  go_wp2
  go_ret
  exact ⟨rfl, rfl⟩

set_option maxHeartbeats 1000000 in
theorem cmpS_any (a b : ByteArray) (w : World) :
    Calls Tryd.prog 62 #[.string a, .string b] w fun e w' => e = .returned (.int .i64 (cmpS a b)) ∧ w' = w := by
  have e : ∀ n, cmpS a b = n → (Ending.returned (.int .i64 n) = Ending.returned (.int .i64 (cmpS a b))) := fun b h => by rw [h]
  by_cases h1 : Op.bytesLess a.toList b.toList = true
  · go_enter Tryd.func62, Tryd.ntmps62
    go_wp2_with (go_at_call 92; refine (nan_any _ _).mono ?_; rintro e w' ⟨rfl, rfl⟩)
    go_ret
    exact ⟨e _ (by unfold cmpS cmpB; simp [h1]), rfl⟩
  · have h1' : Op.bytesLess a.toList b.toList = false := by simpa using h1
    by_cases h2 : (a.toList == b.toList) = true
    · have hn : Hid (cmpS a b = 0) := hidn (by
        unfold cmpS
        rw [beq_iff_eq.1 h2, cmpB_self])
      go_enter Tryd.func62, Tryd.ntmps62
      go_wp2_with (go_at_call 92; refine (nan_any _ _).mono ?_; rintro e w' ⟨rfl, rfl⟩)
      go_ret
      exact ⟨e _ hn, rfl⟩
    · have h2' : (a.toList == b.toList) = false := by simpa using h2
      have hn : Hid (cmpS a b = 1) := hidn (by
        unfold cmpS cmpB
        have h3 : Op.bytesLess b.toList a.toList = true := by
          rw [← Bool.not_eq_false]; intro h3
          exact h2 (beq_iff_eq.2 (less_total _ _ h1' h3))
        simp [h1', h3])
      go_enter Tryd.func62, Tryd.ntmps62
      go_wp2_with (go_at_call 92; refine (nan_any _ _).mono ?_; rintro e w' ⟨rfl, rfl⟩)
      go_ret
      exact ⟨e _ hn, rfl⟩

theorem drew_cell (w : World) (p : Addr) : w.drew.cell? p = w.cell? p := rfl
def orZ (x y : Int) : Int := if x = 0 then y else x

set_option maxHeartbeats 1000000 in
theorem or_two (B : Nat) (x y : Int) (w : World) (c0 : w.cell? ⟨B, 0, none⟩ = some (.int .i64 x)) (c1 : w.cell? ⟨B, 1, none⟩ = some (.int .i64 y)) :
    Calls Tryd.prog 61 #[.slice (some ⟨B, 0, none⟩) 2 2] w fun e w' => e = .returned (.int .i64 (orZ x y)) ∧ w' = w := by
  have e : ∀ n, (orZ x y) = n → (Ending.returned (.int .i64 n) = Ending.returned (.int .i64 (orZ x y))) := fun b h => by rw [h]
  have HE := hidn e
  clear e
  go_enter Tryd.func61, Tryd.ntmps61
  go_wp2
  go_loop [8] (fun i => ∃ k : Nat, k ≤ 2 ∧ i = .int .i64 k ∧ Hid ((0 < k → x = 0) ∧ (1 < k → y = 0))) (fun i => 2 - (intOf i).toNat)
  case atStart => exact ⟨0, by omega, rfl, by intro h; omega, by intro h; omega⟩
  case round =>
    obtain ⟨k, hk, rfl, hz⟩ := hrel
    by_cases h0 : k = 0
    · subst h0
      by_cases hx : x = 0
      · have hx' : (x == 0) = true := beq_iff_eq.2 hx
        have HX := hidn hx
        clear hx
        go_wp2
        exact ⟨⟨1, by omega, rfl, fun _ => HX.out, by intro h; omega⟩, by simp [intOf]⟩
      · have hx' : (x == 0) = false := beq_eq_false_iff_ne.2 hx
        have HX := hidn hx
        clear hx
        go_wp2
        go_ret
        exact ⟨HE.out _ (by unfold orZ; rw [if_neg HX.out]), rfl⟩
    by_cases h1 : k = 1
    · subst h1
      by_cases hx : y = 0
      · have hx' : (y == 0) = true := beq_iff_eq.2 hx
        have HX := hidn hx
        clear hx
        go_wp2
        exact ⟨⟨2, by omega, rfl, fun _ => hz.1 (by omega), fun _ => HX.out⟩, by simp [intOf]⟩
      · have hx' : (y == 0) = false := beq_eq_false_iff_ne.2 hx
        have HX := hidn hx
        clear hx
        go_wp2
        go_ret
        exact ⟨HE.out _ (by unfold orZ; rw [if_pos (hz.1 (by omega))]), rfl⟩
    obtain rfl : k = 2 := by omega
    go_wp2
    go_ret
    exact ⟨HE.out _ (by unfold orZ; rw [if_pos (hz.1 (by omega)), hz.2 (by omega)]), rfl⟩

theorem cmpInt (x y : Int) (w : World) : Calls Tryd.prog 63 #[.int .i64 x, .int .i64 y] w fun e w' => e = .returned (.int .i64 (if x < y then -1 else if y < x then 1 else 0)) ∧ w' = w := by
  by_cases h1 : x < y
  · rw [if_pos h1]
    go_enter Tryd.func63, Tryd.ntmps63
    go_wp2
    go_ret
    exact ⟨rfl, rfl⟩
  · rw [if_neg h1]
    by_cases h2 : y < x
    · rw [if_pos h2]
      go_enter Tryd.func63, Tryd.ntmps63
      go_wp2
      go_ret
      exact ⟨rfl, rfl⟩
    · rw [if_neg h2]
      go_enter Tryd.func63, Tryd.ntmps63
      go_wp2
      go_ret
      exact ⟨rfl, rfl⟩

def cmpZ (x y : Int) : Int := if x < y then -1 else if y < x then 1 else 0

theorem call1_run {o : Oper} {a : Act} {w : World} {f : FuncId} {x : Nat} {vx : Value} {ts : Array TypeId} (ho : o.op = Op.call { callee := Callee.value (Operand.func f), args := #[.tmp x], argTypes := ts }) (hen : ∀ args w, (callFunc f args).run Tryd.prog w = .ok (.enter f args) w) (hx : a.eval (.tmp x) = vx) : (execOp a.eval o).run Tryd.prog w = .ok (.enter f #[vx]) w := by
  simp [go_sem, execOp, ho, resolve, invoke, hen]
  simpa [Act.eval] using hx

def cmpP (x y : Spt) : Int := orZ (cmpS x.nm y.nm) (cmpZ x.ix y.ix)

set_option maxHeartbeats 2000000 in
set_option maxRecDepth 100000 in
theorem compareSpots_any (x y : Spt) (w : World) : Calls Tryd.prog 36 #[x.agg, y.agg] w fun e w' => e = .returned (.int .i64 (cmpP x y)) ∧ ∃ q os', w' = grow (w.drewN q) os' := by
  obtain ⟨xn, xi⟩ := x
  obtain ⟨yn, yi⟩ := y
  simp only [Spt.agg]
  have HC : Hid (cmpP ⟨xn, xi⟩ ⟨yn, yi⟩ = orZ (cmpS xn yn) (cmpZ xi yi)) := hidn rfl
  have EN := hidn (enters_of Tryd.func62 (by kernel_rfl) rfl : ∀ args w, (callFunc 62 args).run Tryd.prog w = .ok (.enter 62 args) w)
  have EN1 := hidn (enters_of Tryd.func63 (by kernel_rfl) rfl : ∀ args w, (callFunc 63 args).run Tryd.prog w = .ok (.enter 63 args) w)
  have EN2 := hidn (enters_of Tryd.func61 (by kernel_rfl) rfl : ∀ args w, (callFunc 61 args).run Tryd.prog w = .ok (.enter 61 args) w)
  go_enter Tryd.func36, Tryd.ntmps36
  go_wp2
  refine wp_region_noPanic ?_
  refine wp_region_held_drew (S := fun w' => w'.cell? ⟨w.heap.size, 0, none⟩ = some (.string xn) ∧ w'.cell? ⟨w.heap.size, 1, none⟩ = some (.int .i64 xi) ∧ w'.cell? ⟨w.heap.size + 1, 0, none⟩ = some (.string yn) ∧ w'.cell? ⟨w.heap.size + 1, 1, none⟩ = some (.int .i64 yi)) (by kernel_rfl) ⟨by simp, by simp, by simp, by simp⟩ (fun hHeld => ?_)
  refine drawn_take (i := 0) (v := .pointer (some ⟨w.heap.size, 0, none⟩)) (some 5) rfl rfl (by kernel_rfl) (by kernel_rfl) (by kernel_rfl) (fun _ _ _ h => h) (Or.inl ⟨by kernel_rfl, fun wq hw => by (obtain ⟨g1, g2, g3, g4⟩ := hw; go_simp)⟩) hHeld ?_
  simp only [Act.put, List.setIfInBounds_toArray, List.set_cons_succ, List.set_cons_zero]
  refine drawn_take (i := 1) (v := .string xn) (some 6) rfl rfl (by kernel_rfl) (by kernel_rfl) (by kernel_rfl) (fun _ _ _ h => h) (Or.inl ⟨by kernel_rfl, fun wq hw => by (obtain ⟨g1, g2, g3, g4⟩ := hw; go_simp)⟩) hHeld ?_
  simp only [Act.put, List.setIfInBounds_toArray, List.set_cons_succ, List.set_cons_zero]
  refine drawn_take (i := 2) (v := .pointer (some ⟨w.heap.size + 1, 0, none⟩)) (some 7) rfl rfl (by kernel_rfl) (by kernel_rfl) (by kernel_rfl) (fun _ _ _ h => h) (Or.inl ⟨by kernel_rfl, fun wq hw => by (obtain ⟨g1, g2, g3, g4⟩ := hw; go_simp)⟩) hHeld ?_
  simp only [Act.put, List.setIfInBounds_toArray, List.set_cons_succ, List.set_cons_zero]
  refine drawn_take (i := 3) (v := .string yn) (some 8) rfl rfl (by kernel_rfl) (by kernel_rfl) (by kernel_rfl) (fun _ _ _ h => h) (Or.inl ⟨by kernel_rfl, fun wq hw => by (obtain ⟨g1, g2, g3, g4⟩ := hw; go_simp)⟩) hHeld ?_
  simp only [Act.put, List.setIfInBounds_toArray, List.set_cons_succ, List.set_cons_zero]
  refine drawn_take (i := 5) (v := .pointer (some ⟨w.heap.size, 1, none⟩)) (some 10) rfl rfl (by kernel_rfl) (by kernel_rfl) (by kernel_rfl) (fun _ _ _ h => h) (Or.inl ⟨by kernel_rfl, fun wq hw => by (obtain ⟨g1, g2, g3, g4⟩ := hw; go_simp)⟩) hHeld ?_
  simp only [Act.put, List.setIfInBounds_toArray, List.set_cons_succ, List.set_cons_zero]
  refine drawn_take (i := 6) (v := .int .i64 xi) (some 11) rfl rfl (by kernel_rfl) (by kernel_rfl) (by kernel_rfl) (fun _ _ _ h => h) (Or.inl ⟨by kernel_rfl, fun wq hw => by (obtain ⟨g1, g2, g3, g4⟩ := hw; go_simp)⟩) hHeld ?_
  simp only [Act.put, List.setIfInBounds_toArray, List.set_cons_succ, List.set_cons_zero]
  refine drawn_take (i := 7) (v := .pointer (some ⟨w.heap.size + 1, 1, none⟩)) (some 12) rfl rfl (by kernel_rfl) (by kernel_rfl) (by kernel_rfl) (fun _ _ _ h => h) (Or.inl ⟨by kernel_rfl, fun wq hw => by (obtain ⟨g1, g2, g3, g4⟩ := hw; go_simp)⟩) hHeld ?_
  simp only [Act.put, List.setIfInBounds_toArray, List.set_cons_succ, List.set_cons_zero]
  refine drawn_take (i := 8) (v := .int .i64 yi) (some 13) rfl rfl (by kernel_rfl) (by kernel_rfl) (by kernel_rfl) (fun _ _ _ h => h) (Or.inl ⟨by kernel_rfl, fun wq hw => by (obtain ⟨g1, g2, g3, g4⟩ := hw; go_simp)⟩) hHeld ?_
  simp only [Act.put, List.setIfInBounds_toArray, List.set_cons_succ, List.set_cons_zero]
  refine wpAnyH_ready (rs := [4]) (by kernel_rfl) (by simp) ?_
  refine rdy_call (i := 4) rfl rfl (some 9) rfl 62 #[.string xn, .string yn] (call2_run (x := 6) (y := 8) (ts := #[9, 9]) (by kernel_rfl) EN.out (by kernel_rfl) (by kernel_rfl)) (fun v w' => v = .int .i64 (cmpS xn yn) ∧ w' = _) ((cmpS_any xn yn _).mono fun e w' h => ⟨_, h.1, rfl, h.2⟩) (fun v w5 hR => ?_) rdy_nil
  obtain ⟨rfl, rfl⟩ := hR
  refine ⟨hHeld, fun hHeld => ?_⟩
  simp only [Act.put, List.setIfInBounds_toArray, List.set_cons_succ, List.set_cons_zero]
  refine wpAnyH_ready (rs := [9]) (by kernel_rfl) (by simp) ?_
  refine rdy_call (i := 9) rfl rfl (some 14) rfl 63 #[.int .i64 xi, .int .i64 yi] (call2_run (x := 11) (y := 13) (ts := #[3, 3]) (by kernel_rfl) EN1.out (by kernel_rfl) (by kernel_rfl)) (fun v w' => v = .int .i64 (cmpZ xi yi) ∧ w' = _) ((cmpInt xi yi _).mono fun e w' h => ⟨_, h.1, rfl, h.2⟩) (fun v w5 hR => ?_) rdy_nil
  obtain ⟨rfl, rfl⟩ := hR
  refine ⟨hHeld, fun hHeld => ?_⟩
  simp only [Act.put, List.setIfInBounds_toArray, List.set_cons_succ, List.set_cons_zero]
  refine wpAnyH_ready (rs := [10]) (by kernel_rfl) (by simp) ?_
  refine rdy_val (i := 10) rfl rfl (some 15) rfl (.slice (some ⟨w.heap.size + 1 + 1, 0, none⟩) 2 2) ((((w.alloc (.cells #[.string xn, .int .i64 xi] 25)).alloc (.cells #[.string yn, .int .i64 yi] 25)).alloc (.cells #[.int .i64 (cmpS xn yn), .int .i64 (cmpZ xi yi)] 3)).drew) (by go_simp) ⟨by go_simp, by go_simp, by go_simp, by go_simp⟩ (fun hHeld => ?_) rdy_nil
  simp only [Act.put, List.setIfInBounds_toArray, List.set_cons_succ, List.set_cons_zero]
  refine wpAnyH_ready (rs := [11]) (by kernel_rfl) (by simp) ?_
  refine rdy_call (i := 11) rfl rfl (some 16) rfl 61 #[.slice (some ⟨w.heap.size + 1 + 1, 0, none⟩) 2 2] (call1_run (x := 15) (ts := #[69]) (by kernel_rfl) EN2.out (by kernel_rfl)) (fun v w' => v = .int .i64 (orZ (cmpS xn yn) (cmpZ xi yi)) ∧ w' = _) ((or_two _ _ _ _ (by go_simp) (by go_simp)).mono fun e w' h => ⟨_, h.1, rfl, h.2⟩) (fun v w5 hR => ?_) rdy_nil
  obtain ⟨rfl, rfl⟩ := hR
  refine ⟨hHeld, fun hHeld => ?_⟩
  simp only [Act.put, List.setIfInBounds_toArray, List.set_cons_succ, List.set_cons_zero]
  refine drawn_take (i := 12) (v := .int .i64 (orZ (cmpS xn yn) (cmpZ xi yi))) (some 4) rfl rfl (by kernel_rfl) (by kernel_rfl) (by kernel_rfl) (fun _ _ _ h => h) (Or.inl ⟨by kernel_rfl, fun wq hw => by go_simp⟩) hHeld ?_
  simp only [Act.put, List.setIfInBounds_toArray, List.set_cons_succ, List.set_cons_zero]
  refine wpAnyH_done (by kernel_rfl) ?_ _
  refine NoPanic.normal ?_
  clear hHeld
  go_wp2
  go_ret
  refine ⟨by rw [HC.out]; rfl, 1, #[.cells #[.string xn, .int .i64 xi] 25] ++ #[.cells #[.string yn, .int .i64 yi] 25] ++ #[.cells #[.int .i64 (cmpS xn yn), .int .i64 (cmpZ xi yi)] 3], ?_⟩
  rw [alloc_eq_grow, alloc_eq_grow, alloc_eq_grow, grow_grow, grow_grow, drew_grow]
  rfl

theorem cmpP_less (x y : Spt) : (cmpP x y < 0) ↔ lessS x y = true := by
  unfold cmpP orZ cmpS cmpB cmpZ lessS
  cases h1 : Op.bytesLess x.nm.toList y.nm.toList with
  | true => simp
  | false =>
    cases h2 : Op.bytesLess y.nm.toList x.nm.toList with
    | true =>
      have : ¬ x.nm = y.nm := fun e => by rw [e, less_irrefl] at h2; cases h2
      simp [this]
    | false =>
      have : x.nm = y.nm := toL_inj (less_total _ _ h1 h2)
      simp [this]
      split
      · simp; assumption
      · split
        · simp; omega
        · simp; omega

end Go.Proofs.YtidlogeeophogaaDoor.Sp
