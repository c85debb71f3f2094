/- dryrotref20.Note. -/
import Derived.Test.YtidlogeeophogaaDoorSpB
import Derived.Test.YtidlogeeophogaaDoorAppK
namespace Go.Proofs.YtidlogeeophogaaDoor.Sp
open Go.RowKit Go.Joins
set_option linter.unusedVariables false
set_option linter.unusedSimpArgs false

section
variable {P : Program} {md : Region.Mode} {ops : Array Oper} {Q : Exit → Act → World → Prop} {S : World → Prop} {fuel : Nat} {listed : Array Bool} {a : Act} {w : World} {i : Nat} {o : Oper} {rs : List Nat}
theorem rdy_callw (ho : ops[i]? = some o) (hw : Region.wanted o (yielded ops a.tmps) = true) (dst : Option Nat) (hd : o.dst = dst) (f : FuncId) (args : Array Value) (hrun : (execOp a.eval o).run P w = .ok (.enter f args) w) (R : Value → World → Prop)
    (hc : Calls P f args w fun e w' => ∃ v, e = .returned v ∧ R v w')
    (h : ∀ v w', R v w' → S w' ∧ (S w' → wpAnyH P md ops Q S fuel (listed.setIfInBounds i true) (a.put dst v) w')) (hs : AllReadyH P md ops Q S fuel listed a w rs) : AllReadyH P md ops Q S fuel listed a w (i :: rs) := by
  subst hd
  refine AllReadyH.cons ho (fun K hK => ?_) hs
  rw [if_pos hw]
  unfold Oper.wp
  rw [hrun, Oper.upon_enter]
  refine hc.mono fun e w' hh => ?_
  obtain ⟨v, rfl, hR⟩ := hh
  exact hK _ _ (h v w' hR).1 (h v w' hR).2
end

theorem call2_run {o : Oper} {a : Act} {w : World} {f : FuncId} {x y : Nat} {vx vy : Value} {ts : Array TypeId} (ho : o.op = Op.call { callee := Callee.value (Operand.func f), args := #[.tmp x, .tmp y], argTypes := ts }) (hen : ∀ args w, (callFunc f args).run Tryd.prog w = .ok (.enter f args) w) (hx : a.eval (.tmp x) = vx) (hy : a.eval (.tmp y) = vy) : (execOp a.eval o).run Tryd.prog w = .ok (.enter f #[vx, vy]) w := by
  simp [go_sem, execOp, ho, resolve, invoke, hen]
  exact ⟨by simpa [Act.eval] using hx, by simpa [Act.eval] using hy⟩

def insRev : List Spt → Spt → List Spt
  | [], s => [s]
  | x :: t, s => if lessS s x then x :: insRev t s else s :: x :: t

/-- A spot put in behind all that it does not stand ahead of. -/
def insS (L : List Spt) (s : Spt) : List Spt := (insRev L.reverse s).reverse

theorem insRev_over (R T : List Spt) (s : Spt) (h : ∀ x ∈ R, lessS s x = true) : insRev (R ++ T) s = R ++ insRev T s := by
  induction R with
  | nil => rfl
  | cons x t ih =>
    show (if lessS s x then x :: insRev (t ++ T) s else _) = _
    rw [if_pos (h x (by simp)), ih (fun y hy => h y (by simp [hy]))]
    rfl

theorem insRev_stop (T : List Spt) (s : Spt) (h : ∀ x, T.head? = some x → lessS s x = false) : insRev T s = s :: T := by
  cases T with
  | nil => rfl
  | cons x t =>
    show (if lessS s x then _ else _) = _
    rw [h x rfl]
    rfl

theorem insRev_len (T : List Spt) (s : Spt) : (insRev T s).length = T.length + 1 := by
  induction T with
  | nil => rfl
  | cons x t ih =>
    show (if lessS s x then x :: insRev t s else s :: x :: t).length = _
    split
    · simp [ih]
    · simp

theorem ins_at {L : List Spt} {p : Nat} {s : Spt} (hp : p ≤ L.length) (hB : ∀ x ∈ L.drop p, lessS s x = true) (hA : ∀ x, 0 < p → L[p - 1]? = some x → lessS s x = false) : insS L s = L.take p ++ s :: L.drop p := by
  unfold insS
  have e : L.reverse = (L.drop p).reverse ++ (L.take p).reverse := by rw [← List.reverse_append, List.take_append_drop]
  rw [e, insRev_over _ _ _ (fun x hx => hB x (List.mem_reverse.1 hx)), insRev_stop _ _ (fun x hx => ?_)]
  · simp
  · cases p with
    | zero => simp at hx
    | succ q =>
      refine hA x (Nat.succ_pos _) ?_
      rw [List.head?_reverse, List.getLast?_eq_getElem?, List.length_take, Nat.min_eq_left hp, List.getElem?_take] at hx
      simpa using hx

def noteTo (add : Bool) (l : List Spt) (A : List Spt) : List Spt := A.foldl (fun out s => if inS out s || (!add && inS l s) then out else insS out s) []

theorem noteTo_succ {add : Bool} {l A : List Spt} {k : Nat} {s : Spt} (h : A[k]? = some s) : noteTo add l (A.take (k + 1)) = if inS (noteTo add l (A.take k)) s || (!add && inS l s) then noteTo add l (A.take k) else insS (noteTo add l (A.take k)) s := by
  unfold noteTo
  rw [List.take_add_one, h, List.foldl_append]
  rfl

theorem noteTo_len (add : Bool) (l A : List Spt) : (noteTo add l A).length ≤ A.length := by
  have key : ∀ (A B : List Spt), (A.foldl (fun out s => if inS out s || (!add && inS l s) then out else insS out s) B).length ≤ B.length + A.length := by
    intro A
    induction A with
    | nil => intro B; exact Nat.le_refl _
    | cons x t ih =>
      intro B
      refine Nat.le_trans (ih _) ?_
      show (if inS B x || (!add && inS l x) then B else insS B x).length + t.length ≤ B.length + (x :: t).length
      split
      · simp
      · unfold insS
        rw [List.length_reverse, insRev_len, List.length_reverse]
        simp
        omega
  have := key A []
  simpa [noteTo] using this

def NoteP (w : World) (L : List Spt) (e : Ending) (w' : World) : Prop := ∃ v, e = .returned v ∧ w'.ownsRow w.heap.size 25 2 v L.length (fvs L) ∧ Below w.heap.size w w'

def noteS (add : Bool) (l1 l2 : List Spt) : List Spt := noteTo add l2 (if add then l1 ++ l2 else l1)

set_option maxHeartbeats 8000000 in
set_option maxRecDepth 100000 in
theorem refNote_any (a1 b2 : Option Addr) (len1 cap1 len2 cap2 : Nat) (l1 l2 : List Spt) (add : Bool) (w : World) (h1 : Fls w a1 len1 l1) (h2 : Fls w b2 len2 l2) (hm1 : len1 ≤ 40) (hm2 : len2 ≤ 40) :
    Calls Tryd.prog 9 #[.slice a1 len1 cap1, .slice b2 len2 cap2, .bool add] w (NoteP w (noteS add l1 l2)) := by
  have ENL : ∀ args w, (callFunc 19 args).run Tryd.prog w = .ok (.enter 19 args) w := fun args w => by kernel_rfl
  obtain ⟨wC, hwC⟩ : ∃ wC, wC = w.alloc (.cells #[] 25) := ⟨_, rfl⟩
  have bC : Below w.heap.size w wC := by rw [hwC]; exact (Below.refl _ w).alloc (Nat.le_refl _) _
  have hown : wC.ownsRow w.heap.size 25 2 (.slice (some ⟨w.heap.size, 0, none⟩) 0 0) 0 [] := by
    have := World.ownsRow_lit (base := w.heap.size) (e := 25) (size := 2) w #[] 0 (Nat.le_refl _) (Nat.zero_le _) rfl
    rw [← hwC] at this
    exact this
  obtain ⟨a', c', wX, hr, ho, hg⟩ := appF wC w.heap.size _ 0 0 [] hown bC.size a1 len1 cap1 (fvs l1) (h1.below bC).src len1 (by omega) (by omega)
  rw [List.nil_append] at ho
  have BX : Below w.heap.size w wX := bC.grown hg bC.size (fun k hk => by simp [Value.ownBlock] at hk; omega)
  have HRUN := hidn hr
  have HWC := hidn hwC
  have HX := hidn ho
  have HL1 := hidn h1.1
  have HL2L := hidn h2.1
  have HL2' := hidn (h2.below BX)
  clear hr hwC hown ho hg
  cases add with
  | false =>
    obtain ⟨A3, hA3⟩ : ∃ A3, A3 = l1 := ⟨_, rfl⟩
    obtain ⟨n3, hn3⟩ : ∃ n3, n3 = len1 := ⟨_, rfl⟩
    obtain ⟨w3, hw3⟩ : ∃ w3, w3 = wX := ⟨_, rfl⟩
    subst hA3
    subst hn3
    subst hw3
    rw [show noteS false A3 l2 = noteTo false l2 A3 from rfl]
    have HA3 : Hid (A3.length = n3) := HL1
    have HF3 : Hid (Fls w3 a' n3 A3) := hidn (by
      obtain ⟨va, vc, hv, hF, _⟩ := fls_of_own HX.out HL1.out
      injection hv with e1 e2 e3
      rw [e1]
      exact hF)
    have B3 := BX
    have HL2 := HL2'
    clear HX HL1 BX HL2' bC h1 h2
    go_enter Tryd.func9, Tryd.ntmps9
    go_wp2_with (at_builtin; rw [← HWC.out]; refine wpList_app_run2 rfl _ _ 22 22 rfl rfl (.slice (some ⟨w.heap.size, 0, none⟩) 0 0) _ _ rfl rfl HRUN.out ?_; clear HRUN)
    go_loopw [8, 21] (fun hv iv wr => ∃ (k : Nat) (v : Value), k ≤ n3 ∧ iv = .int .i64 (k : Int) ∧ hv = v ∧ Hid (wr.ownsRow w3.heap.size 25 2 v (noteTo false l2 (A3.take k)).length (fvs (noteTo false l2 (A3.take k)))) ∧ Below w3.heap.size w3 wr) (fun _ iv _ => n3 - (intOf iv).toNat)
    case atStart => exact ⟨0, _, Nat.zero_le _, rfl, rfl, hidn (World.ownsRow_nil _ _ _ _), Below.refl _ _⟩
    case round =>
      obtain ⟨k, v, hk, rfl, rfl, hO, hb⟩ := hrel
      by_cases hlt : k < n3
      · have hlt2 : (k : Int) < (n3 : Int) := by omega
        obtain ⟨wo, hwo⟩ : ∃ wo, wo = wr := ⟨wr, rfl⟩
        subst hwo
        obtain ⟨Lo, hLo⟩ : ∃ Lo, Lo = noteTo false l2 (A3.take k) := ⟨_, rfl⟩
        have hO1 := hO.out
        rw [← hLo] at hO1
        have HLo := hidn hLo
        have hLl : Lo.length ≤ 80 := by
          rw [hLo]
          refine Nat.le_trans (noteTo_len _ _ _) ?_
          rw [List.length_take]
          omega
        obtain ⟨N, hN⟩ : ∃ N, N = Lo.length := ⟨_, rfl⟩
        have HN := hidn hN
        rw [← hN] at hO1 hLl
        obtain ⟨fa, fc, hv, hF, hAF⟩ := fls_of_own hO1 hN.symm
        subst hv
        have HO1 := hidn hO1
        have HF := hidn hF
        clear hLo hN hO1 hO hF
        obtain ⟨s, hs⟩ : ∃ s, A3[k]? = some s := ⟨_, List.getElem?_eq_getElem (by rw [HA3.out]; exact hlt)⟩
        obtain ⟨b, off, ha3, hbk, c0, c1, _⟩ := (HF3.out.below hb).at hs
        have HS := hidn hs
        obtain ⟨wA, hwA⟩ : ∃ wA, wA = wo.alloc (.cells #[.string s.nm, .int .i64 s.ix] 25) := ⟨_, rfl⟩
        have bA : Below wo.heap.size wo wA := by rw [hwA]; exact (Below.refl _ wo).alloc (Nat.le_refl _) _
        have BA := hb.trans (bA.mono hb.size)
        have qA : wA.heap[wo.heap.size]? = some (.cells #[.string s.nm, .int .i64 s.ix] 25 (0, 0)) := by rw [hwA]; exact heap_alloc_new wo _
        have hAs : wo.heap.size < wA.heap.size := (Array.getElem?_eq_some_iff.1 qA).1
        have HWA := hidn hwA
        have HQA := hidn qA
        have f0 : wA.cell? ⟨wo.heap.size, 0, none⟩ = some (.string s.nm) := cell_of_row _ _ _ _ _ _ qA
        have f1 : wA.cell? ⟨wo.heap.size, 1, none⟩ = some (.int .i64 s.ix) := cell_of_row _ _ _ _ _ _ qA
        have HIN1 := hidn (in_any fa N fc Lo s wA (HF.out.below bA) (by omega))
        have HST : Hid (noteTo false l2 (A3.take (k + 1)) = if inS Lo s || (!false && inS l2 s) then Lo else insS Lo s) := hidn (by rw [noteTo_succ HS.out, ← HLo.out])
        have HIN2 := hidn (fun w9 (b9 : Below wA.heap.size wA w9) => in_any b2 len2 cap2 l2 s w9 (((HL2.out.below hb).below bA).below b9) (by omega))
        clear hwA hs qA
        rw [ha3]
        go_upto_region 8 with fail
        rw [← HWA.out]
        go_wp2_with fail
        refine HIN1.out.mono ?_
        rintro e w1 ⟨rfl, b1⟩
        have h1s : wo.heap.size < w1.heap.size := Nat.lt_of_lt_of_le hAs b1.size
        have HQ1 := hidn ((b1.block _ hAs).trans HQA.out)
        have g0 : w1.cell? ⟨wo.heap.size, 0, none⟩ = some (.string s.nm) := (b1.cell (p := ⟨wo.heap.size, 0, none⟩) hAs).trans f0
        have g1 : w1.cell? ⟨wo.heap.size, 1, none⟩ = some (.int .i64 s.ix) := (b1.cell (p := ⟨wo.heap.size, 1, none⟩) hAs).trans f1
        have b1o := bA.trans (b1.mono bA.size)
        have B1 := hb.trans (b1o.mono hb.size)
        obtain ⟨r1, hr1⟩ : ∃ r1, r1 = inS Lo s := ⟨_, rfl⟩
        rw [← hr1] at HST ⊢
        have HR1 := hidn hr1
        clear hr1 f0 f1 c0 c1
        cases r1 with
        | true =>
          have HSK : Hid (noteTo false l2 (A3.take (k + 1)) = Lo) := hidn (by rw [HST.out]; simp)
          have HNN : Hid (w1.ownsRow w3.heap.size 25 2 (.slice fa N fc) (noteTo false l2 (A3.take (k + 1))).length (fvs (noteTo false l2 (A3.take (k + 1))))) := hidn (by rw [HSK.out, ← HN.out]; exact own_skip HO1.out b1o)
          go_wp2_with fail
          exact ⟨⟨k + 1, _, by omega, by simp, rfl, HNN, B1⟩, by simp [intOf]; omega⟩
        | false =>
          go_wp2_with fail
          refine (HIN2.out w1 b1).mono ?_
          rintro e w4 ⟨rfl, b4⟩
          have h4s : wo.heap.size < w4.heap.size := Nat.lt_of_lt_of_le h1s b4.size
          have HQ4 := hidn ((b4.block _ h1s).trans HQ1.out)
          have b4o := b1o.trans (b4.mono b1o.size)
          have B4 := hb.trans (b4o.mono hb.size)
          obtain ⟨r2, hr2⟩ : ∃ r2, r2 = inS l2 s := ⟨_, rfl⟩
          rw [← hr2] at HST ⊢
          have HR2 := hidn hr2
          clear hr2 g0 g1
          cases r2 with
          | true =>
            have HSK : Hid (noteTo false l2 (A3.take (k + 1)) = Lo) := hidn (by rw [HST.out]; simp)
            have HNN : Hid (w4.ownsRow w3.heap.size 25 2 (.slice fa N fc) (noteTo false l2 (A3.take (k + 1))).length (fvs (noteTo false l2 (A3.take (k + 1))))) := hidn (by rw [HSK.out, ← HN.out]; exact own_skip HO1.out b4o)
            go_wp2_with fail
            exact ⟨⟨k + 1, _, by omega, by simp, rfl, HNN, B4⟩, by simp [intOf]; omega⟩
          | false =>
            have HSK : Hid (noteTo false l2 (A3.take (k + 1)) = insS Lo s) := hidn (by rw [HST.out]; simp)
            clear HST HR1 HR2
            go_wp2_with fail
            go_loopw [11] (fun iv wr => ∃ p : Nat, p ≤ N ∧ iv = .int .i64 (p : Int) ∧ Hid (∀ x ∈ Lo.drop p, lessS s x = true) ∧ Below w4.heap.size w4 wr) (fun iv _ => (intOf iv).toNat)
            case atStart => exact ⟨N, Nat.le_refl _, rfl, hidn (fun x hx => by rw [HN.out, List.drop_length] at hx; cases hx), Below.refl _ _⟩
            case round =>
              obtain ⟨p, hpN, rfl, HD, hb3⟩ := hrel
              have HQR := hidn ((hb3.block _ h4s).trans HQ4.out)
              have hrs : wo.heap.size < wr.heap.size := Nat.lt_of_lt_of_le h4s hb3.size
              go_wp2_with fail
              refine region_cut (fun li wx => ∃ (bb v40 v41 : Bool) (v42 v43 v44 v45 v46 v47 v48 : Value), li = [(39, .int .i64 (p : Int)), (40, .bool v40), (41, .bool v41), (42, v42), (43, v43), (44, v44), (45, v45), (46, v46), (47, v47), (48, v48), (49, .bool bb)] ∧ Hid ((bb = true → ∃ q x, p = q + 1 ∧ Lo[q]? = some x ∧ lessS s x = true) ∧ (bb = false → ∀ y, 0 < p → Lo[p - 1]? = some y → lessS s y = false)) ∧ Below w4.heap.size w4 wx) ?_ ?_
              · skip
                by_cases hp0 : p = 0
                · have hp1 : ¬ (0 : Int) < (p : Int) := by omega
                  have HP0 := hidn hp0
                  clear hp0
                  refine wp_region_noPanic ?_
                  refine wp_region_held_drew (S := fun w' => Below w4.heap.size w4 w') (by kernel_rfl) (hb3.drew) (fun hHeld => ?_)
                  refine drawn_take (i := 0) (v := .int .i64 (p : Int)) (some 39) rfl rfl (by kernel_rfl) (by kernel_rfl) (by kernel_rfl) (fun _ _ _ h => h) (Or.inl ⟨by kernel_rfl, fun wq hw => by go_simp⟩) hHeld ?_
                  simp only [Act.put, List.setIfInBounds_toArray, List.set_cons_succ, List.set_cons_zero]
                  refine drawn_take (i := 1) (v := .bool false) (some 40) rfl rfl (by kernel_rfl) (by kernel_rfl) (by kernel_rfl) (fun _ _ _ h => h) (Or.inl ⟨by kernel_rfl, fun wq hw => by go_simp; omega⟩) hHeld ?_
                  simp only [Act.put, List.setIfInBounds_toArray, List.set_cons_succ, List.set_cons_zero]
                  refine drawn_take (i := 2) (v := .bool false) (some 41) rfl rfl (by kernel_rfl) (by kernel_rfl) (by kernel_rfl) (fun _ _ _ h => h) (Or.inl ⟨by kernel_rfl, fun wq hw => by go_simp⟩) hHeld ?_
                  simp only [Act.put, List.setIfInBounds_toArray, List.set_cons_succ, List.set_cons_zero]
                  refine drawn_take (i := 3) (v := undef) (some 42) rfl rfl (by kernel_rfl) (by kernel_rfl) (by kernel_rfl) (fun _ _ _ h => h) (Or.inr ⟨by kernel_rfl, rfl⟩) hHeld ?_
                  simp only [Act.put, List.setIfInBounds_toArray, List.set_cons_succ, List.set_cons_zero]
                  refine drawn_take (i := 4) (v := undef) (some 43) rfl rfl (by kernel_rfl) (by kernel_rfl) (by kernel_rfl) (fun _ _ _ h => h) (Or.inr ⟨by kernel_rfl, rfl⟩) hHeld ?_
                  simp only [Act.put, List.setIfInBounds_toArray, List.set_cons_succ, List.set_cons_zero]
                  refine drawn_take (i := 5) (v := undef) (some 44) rfl rfl (by kernel_rfl) (by kernel_rfl) (by kernel_rfl) (fun _ _ _ h => h) (Or.inr ⟨by kernel_rfl, rfl⟩) hHeld ?_
                  simp only [Act.put, List.setIfInBounds_toArray, List.set_cons_succ, List.set_cons_zero]
                  refine drawn_take (i := 6) (v := undef) (some 45) rfl rfl (by kernel_rfl) (by kernel_rfl) (by kernel_rfl) (fun _ _ _ h => h) (Or.inr ⟨by kernel_rfl, rfl⟩) hHeld ?_
                  simp only [Act.put, List.setIfInBounds_toArray, List.set_cons_succ, List.set_cons_zero]
                  refine drawn_take (i := 7) (v := undef) (some 46) rfl rfl (by kernel_rfl) (by kernel_rfl) (by kernel_rfl) (fun _ _ _ h => h) (Or.inr ⟨by kernel_rfl, rfl⟩) hHeld ?_
                  simp only [Act.put, List.setIfInBounds_toArray, List.set_cons_succ, List.set_cons_zero]
                  refine drawn_take (i := 8) (v := undef) (some 47) rfl rfl (by kernel_rfl) (by kernel_rfl) (by kernel_rfl) (fun _ _ _ h => h) (Or.inr ⟨by kernel_rfl, rfl⟩) hHeld ?_
                  simp only [Act.put, List.setIfInBounds_toArray, List.set_cons_succ, List.set_cons_zero]
                  refine drawn_take (i := 9) (v := undef) (some 48) rfl rfl (by kernel_rfl) (by kernel_rfl) (by kernel_rfl) (fun _ _ _ h => h) (Or.inr ⟨by kernel_rfl, rfl⟩) hHeld ?_
                  simp only [Act.put, List.setIfInBounds_toArray, List.set_cons_succ, List.set_cons_zero]
                  refine drawn_take (i := 10) (v := .bool false) (some 49) rfl rfl (by kernel_rfl) (by kernel_rfl) (by kernel_rfl) (fun _ _ _ h => h) (Or.inl ⟨by kernel_rfl, fun wq hw => by go_simp⟩) hHeld ?_
                  simp only [Act.put, List.setIfInBounds_toArray, List.set_cons_succ, List.set_cons_zero]
                  refine wpAnyH_done (by kernel_rfl) ?_ _
                  refine NoPanic.normal ?_
                  clear hHeld
                  exact ⟨rfl, _, ⟨false, false, false, undef, undef, undef, undef, undef, undef, undef, rfl, hidn ⟨(fun e => by cases e), fun _ y hy => by have := HP0.out; omega⟩, hb3.drew⟩, by kernel_rfl⟩
                · obtain ⟨q, hpq⟩ : ∃ q, p = q + 1 := ⟨p - 1, by omega⟩
                  obtain ⟨x, hx⟩ : ∃ x, Lo[q]? = some x := ⟨_, List.getElem?_eq_getElem (by rw [← HN.out]; omega)⟩
                  obtain ⟨xb, xo, hxa, hxk, y0, y1, _⟩ := ((HF.out.below b4o).below hb3).at hx
                  have hp1 : (0 : Int) < (p : Int) := by omega
                  have hqi : (p : Int) - 1 = (q : Int) := by omega
                  have hqN : (q : Int) < (N : Int) := by omega
                  have HXX := hidn hx
                  have HPQ := hidn hpq
                  clear hx hp0 hpq
                  rw [hxa]
                  obtain ⟨wd, hwd⟩ : ∃ wd, wd = wr := ⟨wr, rfl⟩
                  refine wp_region_noPanic ?_
                  refine wp_region_held_drew (S := fun w' => Below wr.heap.size wr w') (by kernel_rfl) ((Below.refl _ _).drew) (fun hHeld => ?_)
                  refine drawn_take (i := 0) (v := .int .i64 (p : Int)) (some 39) rfl rfl (by kernel_rfl) (by kernel_rfl) (by kernel_rfl) (fun _ _ _ h => h) (Or.inl ⟨by kernel_rfl, fun wq hw => by go_simp⟩) hHeld ?_
                  simp only [Act.put, List.setIfInBounds_toArray, List.set_cons_succ, List.set_cons_zero]
                  refine drawn_take (i := 1) (v := .bool true) (some 40) rfl rfl (by kernel_rfl) (by kernel_rfl) (by kernel_rfl) (fun _ _ _ h => h) (Or.inl ⟨by kernel_rfl, fun wq hw => by go_simp; omega⟩) hHeld ?_
                  simp only [Act.put, List.setIfInBounds_toArray, List.set_cons_succ, List.set_cons_zero]
                  refine drawn_take (i := 2) (v := .bool true) (some 41) rfl rfl (by kernel_rfl) (by kernel_rfl) (by kernel_rfl) (fun _ _ _ h => h) (Or.inl ⟨by kernel_rfl, fun wq hw => by go_simp⟩) hHeld ?_
                  simp only [Act.put, List.setIfInBounds_toArray, List.set_cons_succ, List.set_cons_zero]
                  refine drawn_take (i := 3) (v := s.agg) (some 42) rfl rfl (by kernel_rfl) (by kernel_rfl) (by kernel_rfl) (fun _ _ _ h => h) (Or.inl ⟨by kernel_rfl, fun wq hw => ldF_run (x := .tmp 10) (g := wo.heap.size) rfl (by kernel_rfl) ((hw.block _ hrs).trans HQR.out)⟩) hHeld ?_
                  simp only [Act.put, List.setIfInBounds_toArray, List.set_cons_succ, List.set_cons_zero]
                  refine drawn_take (i := 4) (v := .slice (some ⟨xb, xo, none⟩) N fc) (some 43) rfl rfl (by kernel_rfl) (by kernel_rfl) (by kernel_rfl) (fun _ _ _ h => h) (Or.inl ⟨by kernel_rfl, fun wq hw => by go_simp⟩) hHeld ?_
                  simp only [Act.put, List.setIfInBounds_toArray, List.set_cons_succ, List.set_cons_zero]
                  refine drawn_take (i := 5) (v := .int .i64 (p : Int)) (some 44) rfl rfl (by kernel_rfl) (by kernel_rfl) (by kernel_rfl) (fun _ _ _ h => h) (Or.inl ⟨by kernel_rfl, fun wq hw => by go_simp⟩) hHeld ?_
                  simp only [Act.put, List.setIfInBounds_toArray, List.set_cons_succ, List.set_cons_zero]
                  refine drawn_take (i := 6) (v := .int .i64 (q : Int)) (some 45) rfl rfl (by kernel_rfl) (by kernel_rfl) (by kernel_rfl) (fun _ _ _ h => h) (Or.inl ⟨by kernel_rfl, fun wq hw => by go_simp; first | (rw [IntKind.wrap_i64]; omega) | (unfold wrap64; omega)⟩) hHeld ?_
                  simp only [Act.put, List.setIfInBounds_toArray, List.set_cons_succ, List.set_cons_zero]
                  refine drawn_take (i := 7) (v := .pointer (some ⟨xb, xo + q * 2, none⟩)) (some 46) rfl rfl (by kernel_rfl) (by kernel_rfl) (by kernel_rfl) (fun _ _ _ h => h) (Or.inl ⟨by kernel_rfl, fun wq hw => by go_simp⟩) hHeld ?_
                  simp only [Act.put, List.setIfInBounds_toArray, List.set_cons_succ, List.set_cons_zero]
                  refine drawn_take (i := 8) (v := x.agg) (some 47) rfl rfl (by kernel_rfl) (by kernel_rfl) (by kernel_rfl) (fun _ _ _ h => h) (Or.inl ⟨by kernel_rfl, fun wq hw => by have q0 := (hw.cell (p := ⟨xb, xo + q * 2, none⟩) hxk).trans y0; have q1 := (hw.cell (p := ⟨xb, xo + q * 2 + 1, none⟩) hxk).trans y1; unfold Spt.agg; go_simp⟩) hHeld ?_
                  simp only [Act.put, List.setIfInBounds_toArray, List.set_cons_succ, List.set_cons_zero]
                  refine wpAnyH_ready (rs := [9]) (by kernel_rfl) (by simp) ?_
                  refine rdy_callw (i := 9) rfl (by kernel_rfl) (some 48) rfl 19 #[s.agg, x.agg] (call2_run (x := 42) (y := 47) (ts := #[25, 25]) (by kernel_rfl) ENL (by kernel_rfl) (by kernel_rfl)) (fun v w' => v = .bool (lessS s x) ∧ Below wr.drew.heap.size wr.drew w') ((less_any s x _).mono fun e w' h => ⟨_, h.1, rfl, h.2⟩) (fun r w9 hR => ?_) rdy_nil
                  obtain ⟨rfl, hb9⟩ := hR
                  have hb8 : Below wr.heap.size wr w9 := (Below.refl _ wr).drew.trans hb9
                  refine ⟨hb8, fun hHeld => ?_⟩
                  simp only [Act.put, List.setIfInBounds_toArray, List.set_cons_succ, List.set_cons_zero]
                  refine drawn_take (i := 10) (v := .bool (lessS s x)) (some 49) rfl rfl (by kernel_rfl) (by kernel_rfl) (by kernel_rfl) (fun _ _ _ h => h) (Or.inl ⟨by kernel_rfl, fun wq hw => by go_simp⟩) hHeld ?_
                  simp only [Act.put, List.setIfInBounds_toArray, List.set_cons_succ, List.set_cons_zero]
                  refine wpAnyH_done (by kernel_rfl) ?_ _
                  refine NoPanic.normal ?_
                  clear hHeld
                  exact ⟨rfl, _, ⟨lessS s x, true, true, s.agg, .slice (some ⟨xb, xo, none⟩) N fc, .int .i64 (p : Int), .int .i64 (q : Int), .pointer (some ⟨xb, xo + q * 2, none⟩), x.agg, .bool (lessS s x), rfl, hidn ⟨fun e => ⟨q, x, HPQ.out, HXX.out, e⟩, fun e y _ hy => by
                    rw [HPQ.out, Nat.add_sub_cancel, HXX.out] at hy
                    injection hy with hy
                    rw [← hy]
                    exact e⟩, hb3.trans (hb8.mono hb3.size)⟩, by kernel_rfl⟩
              · rintro li wc ⟨bb, v40, v41, v42, v43, v44, v45, v46, v47, v48, rfl, hcb, hbc⟩
                simp only [putAll, List.foldl_cons, List.foldl_nil, Act.put, List.setIfInBounds_toArray, List.set_cons_succ, List.set_cons_zero]
                obtain ⟨hbt, hbf⟩ := hcb.out
                clear hcb
                cases bb with
                | true =>
                  obtain ⟨q, x, hpq, hx, hrk⟩ := hbt rfl
                  have HDQ : Hid (∀ x ∈ Lo.drop q, lessS s x = true) := hidn (fun y hy => by
                    have hql : q < Lo.length := (List.getElem?_eq_some_iff.1 hx).1
                    rw [List.drop_eq_getElem_cons hql, (List.getElem?_eq_some_iff.1 hx).2] at hy
                    rcases List.mem_cons.1 hy with rfl | hy
                    · exact hrk
                    · rw [← hpq] at hy; exact HD.out y hy)
                  have hqi : (p : Int) - 1 = (q : Int) := by omega
                  have hqp : q < p := by omega
                  clear hbt hbf hx hrk hpq HD
                  go_wp2_with fail
                  refine ⟨⟨q, by omega, ?_, HDQ, hbc⟩, ?_⟩
                  · simp
                  · simp [intOf]; omega
                | false =>
                  have hEND := hbf rfl
                  obtain ⟨w5, hw5⟩ : ∃ w5, w5 = wc := ⟨wc, rfl⟩
                  subst hw5
                  obtain ⟨n0, hn0⟩ : ∃ n0, n0 = w5.heap.size := ⟨_, rfl⟩
                  have HNE := hidn hn0
                  obtain ⟨g10, hg10⟩ : ∃ g, g = wo.heap.size := ⟨_, rfl⟩
                  have h4n : w4.heap.size ≤ n0 := by rw [hn0]; exact hbc.size
                  have hg9 : g10 < n0 := by rw [hg10]; exact Nat.lt_of_lt_of_le h4s h4n
                  have HQ9 : Hid (w5.heap[g10]? = some (.cells s.cells.toArray 25 (0, 0))) := hidn (by rw [hg10]; exact (hbc.block _ h4s).trans HQ4.out)
                  rw [← hg10]
                  have b5o := b4o.trans (hbc.mono b4o.size)
                  have B5 := hb.trans (b5o.mono hb.size)
                  have HF5 := hidn (HF.out.below b5o)
                  obtain ⟨k1, hk1⟩ : ∃ k1, k1 = p + 1 := ⟨_, rfl⟩
                  obtain ⟨m2, hm2'⟩ : ∃ m2, m2 = N - p := ⟨_, rfl⟩
                  obtain ⟨c2, hc2⟩ : ∃ c2, c2 = fc - p := ⟨_, rfl⟩
                  obtain ⟨a2, ha2⟩ : ∃ a2 : Option Addr, a2 = lowF fa fc p := ⟨_, rfl⟩
                  obtain ⟨n9, hn9⟩ : ∃ n9, n9 = k1 + m2 := ⟨_, rfl⟩
                  have hn9' : n9 = N + 1 := by omega
                  have HA2 := hidn ha2
                  have HM2 := hidn hm2'
                  have HC2 := hidn hc2
                  have HN9 := hidn hn9'
                  have HSrcA : Hid (∀ W, Below n0 w5 W → SrcF W fa p (fvs (Lo.take p))) := hidn (fun W hW => ((HF5.out.below (by rw [← HNE.out]; exact hW)).take p hpN).src)
                  have HSrcB : Hid (∀ W, Below n0 w5 W → SrcF W a2 m2 (fvs (Lo.drop p))) := hidn (fun W hW => by rw [ha2, hm2']; exact (HF5.out.below (by rw [← HNE.out]; exact hW)).low hAF hpN)
                  have hEN := hidn hEND
                  have HG10 := hidn hg10
                  clear hbt hbf hn0 ha2 hc2 hn9' hEND hg10
                  go_wp2_with fail
                  refine region_cut (fun li w' => ∃ (b92 : Nat) (aA : Option Addr) (cA : Nat) (b99 : Nat) (aB : Option Addr) (cB : Nat) (aC : Option Addr) (cC : Nat), li = [(52, .slice (some ⟨b92, 0, none⟩) 0 0), (53, .slice fa N fc), (54, .int .i64 (p : Int)), (55, .slice fa p fc), (56, .slice aA p cA), (57, s.agg), (58, .slice (some ⟨b99, 0, none⟩) 1 1), (59, .slice aB k1 cB), (60, .slice fa N fc), (61, .int .i64 (p : Int)), (62, .slice a2 m2 c2), (63, .slice aC n9 cC), (8, .slice aC n9 cC)] ∧ Below n0 w5 w' ∧ w'.ownsRow n0 25 2 (.slice aC n9 cC) n9 (fvs (Lo.take p) ++ s.cells ++ fvs (Lo.drop p))) ?_ ?_
                  · skip
                    refine wp_region_noPanic ?_
                    refine wp_region_held_drew (S := Below n0 w5) (by kernel_rfl) ((Below.refl n0 w5).drew) (fun hHeld => ?_)
                    obtain ⟨Wd, hWd⟩ : ∃ Wd, Wd = w5.drew := ⟨_, rfl⟩
                    have hle0 : n0 ≤ Wd.heap.size := by rw [hWd]; exact Nat.le_of_eq HNE.out
                    have hK0 : Below n0 w5 Wd := by rw [hWd]; exact (Below.refl n0 w5).drew
                    rw [← hWd] at hHeld ⊢
                    clear hWd
                    refine drawn_take (i := 1) (v := .slice fa N fc) (some 53) rfl rfl (by kernel_rfl) (by kernel_rfl) (by kernel_rfl) (fun _ _ _ h => h) (Or.inl ⟨by kernel_rfl, fun wq hw => by go_simp⟩) hHeld ?_
                    simp only [Act.put, List.setIfInBounds_toArray, List.set_cons_succ, List.set_cons_zero]
                    refine drawn_take (i := 2) (v := .int .i64 (p : Int)) (some 54) rfl rfl (by kernel_rfl) (by kernel_rfl) (by kernel_rfl) (fun _ _ _ h => h) (Or.inl ⟨by kernel_rfl, fun wq hw => by go_simp⟩) hHeld ?_
                    simp only [Act.put, List.setIfInBounds_toArray, List.set_cons_succ, List.set_cons_zero]
                    refine drawn_take (i := 3) (v := .slice fa p fc) (some 55) rfl rfl (by kernel_rfl) (by kernel_rfl) (by kernel_rfl) (fun _ _ _ h => h) (Or.inl ⟨by kernel_rfl, fun wq hw => slHF_run (x := .tmp 53) (z := .tmp 54) (N := N) rfl (by kernel_rfl) (by kernel_rfl) hAF hpN⟩) hHeld ?_
                    simp only [Act.put, List.setIfInBounds_toArray, List.set_cons_succ, List.set_cons_zero]
                    refine drawn_take (i := 5) (v := s.agg) (some 57) rfl rfl (by kernel_rfl) (by kernel_rfl) (by kernel_rfl) (fun _ _ _ h => h) (Or.inl ⟨by kernel_rfl, fun wq hw => ldF_run (x := .tmp 10) (g := g10) rfl (by kernel_rfl) ((hw.block _ hg9).trans HQ9.out)⟩) hHeld ?_
                    simp only [Act.put, List.setIfInBounds_toArray, List.set_cons_succ, List.set_cons_zero]
                    refine drawn_take (i := 8) (v := .slice fa N fc) (some 60) rfl rfl (by kernel_rfl) (by kernel_rfl) (by kernel_rfl) (fun _ _ _ h => h) (Or.inl ⟨by kernel_rfl, fun wq hw => by go_simp⟩) hHeld ?_
                    simp only [Act.put, List.setIfInBounds_toArray, List.set_cons_succ, List.set_cons_zero]
                    refine drawn_take (i := 9) (v := .int .i64 (p : Int)) (some 61) rfl rfl (by kernel_rfl) (by kernel_rfl) (by kernel_rfl) (fun _ _ _ h => h) (Or.inl ⟨by kernel_rfl, fun wq hw => by go_simp⟩) hHeld ?_
                    simp only [Act.put, List.setIfInBounds_toArray, List.set_cons_succ, List.set_cons_zero]
                    refine drawn_take (i := 10) (v := .slice a2 m2 c2) (some 62) rfl rfl (by kernel_rfl) (by kernel_rfl) (by kernel_rfl) (fun _ _ _ h => h) (Or.inl ⟨by kernel_rfl, fun wq hw => slLF_run (x := .tmp 60) (z := .tmp 61) (fa := fa) (N := N) (fc := fc) (k := p) rfl (by kernel_rfl) (by kernel_rfl) hAF hpN HA2 HM2 HC2⟩) hHeld ?_
                    simp only [Act.put, List.setIfInBounds_toArray, List.set_cons_succ, List.set_cons_zero]
                    refine wpAnyH_ready (rs := [0, 6]) (by kernel_rfl) (by simp) ?_
                    refine rdy_val (i := 0) rfl rfl (some 52) rfl (.slice (some ⟨Wd.heap.size, 0, none⟩) 0 0) (Wd.alloc (.cells #[] 25)) (mkF0_run rfl) (hK0.alloc (hle0) _) (fun hHeld => ?_) ?_
                    · simp only [Act.put, List.setIfInBounds_toArray, List.set_cons_succ, List.set_cons_zero]
                      have he1 := heap_alloc_new Wd (.cells #[] 25)
                      have hK1 := hK0.alloc (hle0) (.cells #[] 25)
                      have hb1 : Below Wd.heap.size Wd (Wd.alloc (.cells #[] 25)) := (Below.refl _ Wd).alloc (Nat.le_refl _) _
                      have hn1 : n0 ≤ Wd.heap.size := hle0
                      have ho1 := own_emptyN (size := 2) he1 hn1
                      obtain ⟨b1, hbe1⟩ : ∃ b, b = Wd.heap.size := ⟨_, rfl⟩
                      obtain ⟨W1, hW1⟩ : ∃ W', W' = Wd.alloc (.cells #[] 25) := ⟨_, rfl⟩
                      rw [← hW1] at hHeld hK1 hb1 he1 ho1
                      rw [← hbe1] at ho1
                      rw [← hbe1, ← hW1]
                      clear hW1 he1
                      refine wpAnyH_ready (rs := [4, 6]) (by kernel_rfl) (by simp) ?_
                      obtain ⟨ga2, gc2, W2, hr2, ho2, hg2⟩ := appF W1 n0 (some ⟨b1, 0, none⟩) 0 0 [] ho1 (Nat.le_trans (hle0) hb1.size) fa p fc (fvs (Lo.take p)) (HSrcA.out W1 hK1) p (by omega) (by omega)
                      refine rdy_val (i := 4) rfl rfl (some 56) rfl (.slice ga2 p gc2) W2 (appl_run (x := .tmp 52) (y := .tmp 55) rfl (by kernel_rfl) (by kernel_rfl) hr2) (hK1.grown hg2 (Nat.le_trans (hle0) hb1.size) (fun b hb => (ho1.lt b hb).1)) (fun hHeld => ?_) ?_
                      · simp only [Act.put, List.setIfInBounds_toArray, List.set_cons_succ, List.set_cons_zero]
                        clear hr2
                        have hK2 := hK1.grown hg2 (Nat.le_trans (hle0) hb1.size) (fun b hb => (ho1.lt b hb).1)
                        refine wpAnyH_ready (rs := [6]) (by kernel_rfl) (by simp) ?_
                        refine rdy_val (i := 6) rfl rfl (some 58) rfl (.slice (some ⟨W2.heap.size, 0, none⟩) 1 1) (W2.alloc (.cells s.cells.toArray 25)) (bsF1_run (x := .tmp 57) rfl (by kernel_rfl)) (hK2.alloc (Nat.le_trans (Nat.le_trans (hle0) hb1.size) hg2.size) _) (fun hHeld => ?_) rdy_nil
                        simp only [Act.put, List.setIfInBounds_toArray, List.set_cons_succ, List.set_cons_zero]
                        have he3 := heap_alloc_new W2 (.cells s.cells.toArray 25)
                        have hK3 := hK2.alloc (Nat.le_trans (Nat.le_trans (hle0) hb1.size) hg2.size) (.cells s.cells.toArray 25)
                        have hb3 : Below W2.heap.size W2 (W2.alloc (.cells s.cells.toArray 25)) := (Below.refl _ W2).alloc (Nat.le_refl _) _
                        have ho2_3 := own_skip ho2 hb3
                        obtain ⟨b3, hbe3⟩ : ∃ b, b = W2.heap.size := ⟨_, rfl⟩
                        obtain ⟨W3, hW3⟩ : ∃ W', W' = W2.alloc (.cells s.cells.toArray 25) := ⟨_, rfl⟩
                        rw [← hW3] at hHeld hK3 hb3 he3 ho2_3
                        rw [← hbe3] at he3
                        rw [← hbe3, ← hW3]
                        clear hW3
                        refine wpAnyH_ready (rs := [7]) (by kernel_rfl) (by simp) ?_
                        obtain ⟨ga4, gc4, W4, hr4, ho4, hg4⟩ := appF W3 n0 ga2 p gc2 (fvs (Lo.take p)) ho2_3 (Nat.le_trans (Nat.le_trans (Nat.le_trans (hle0) hb1.size) hg2.size) hb3.size) (some ⟨b3, 0, none⟩) 1 1 s.cells (srcOne he3) k1 (by omega) (by omega)
                        refine rdy_val (i := 7) rfl rfl (some 59) rfl (.slice ga4 k1 gc4) W4 (appl_run (x := .tmp 56) (y := .tmp 58) rfl (by kernel_rfl) (by kernel_rfl) hr4) (hK3.grown hg4 (Nat.le_trans (Nat.le_trans (Nat.le_trans (hle0) hb1.size) hg2.size) hb3.size) (fun b hb => (ho2_3.lt b hb).1)) (fun hHeld => ?_) rdy_nil
                        simp only [Act.put, List.setIfInBounds_toArray, List.set_cons_succ, List.set_cons_zero]
                        clear hr4
                        have hK4 := hK3.grown hg4 (Nat.le_trans (Nat.le_trans (Nat.le_trans (hle0) hb1.size) hg2.size) hb3.size) (fun b hb => (ho2_3.lt b hb).1)
                        refine wpAnyH_ready (rs := [11]) (by kernel_rfl) (by simp) ?_
                        obtain ⟨ga5, gc5, W5, hr5, ho5, hg5⟩ := appF W4 n0 ga4 k1 gc4 (fvs (Lo.take p) ++ s.cells) ho4 (Nat.le_trans (Nat.le_trans (Nat.le_trans (Nat.le_trans (hle0) hb1.size) hg2.size) hb3.size) hg4.size) a2 m2 c2 (fvs (Lo.drop p)) (HSrcB.out W4 hK4) n9 (by omega) (by omega)
                        refine rdy_val (i := 11) rfl rfl (some 63) rfl (.slice ga5 n9 gc5) W5 (appl_run (x := .tmp 59) (y := .tmp 62) rfl (by kernel_rfl) (by kernel_rfl) hr5) (hK4.grown hg5 (Nat.le_trans (Nat.le_trans (Nat.le_trans (Nat.le_trans (hle0) hb1.size) hg2.size) hb3.size) hg4.size) (fun b hb => (ho4.lt b hb).1)) (fun hHeld => ?_) rdy_nil
                        simp only [Act.put, List.setIfInBounds_toArray, List.set_cons_succ, List.set_cons_zero]
                        clear hr5
                        have hK5 := hK4.grown hg5 (Nat.le_trans (Nat.le_trans (Nat.le_trans (Nat.le_trans (hle0) hb1.size) hg2.size) hb3.size) hg4.size) (fun b hb => (ho4.lt b hb).1)
                        refine drawn_take (i := 12) (v := .slice ga5 n9 gc5) (some 8) rfl rfl (by kernel_rfl) (by kernel_rfl) (by kernel_rfl) (fun _ _ _ h => h) (Or.inl ⟨by kernel_rfl, fun wq hw => by go_simp⟩) hHeld ?_
                        simp only [Act.put, List.setIfInBounds_toArray, List.set_cons_succ, List.set_cons_zero]
                        refine wpAnyH_done (by kernel_rfl) ?_ _
                        refine NoPanic.normal ?_
                        have hKeep := hHeld
                        clear hHeld
                        exact ⟨rfl, _, ⟨b1, ga2, gc2, b3, ga4, gc4, ga5, gc5, rfl, hK5, ho5⟩, by kernel_rfl⟩
                      refine rdy_val (i := 6) rfl rfl (some 58) rfl (.slice (some ⟨W1.heap.size, 0, none⟩) 1 1) (W1.alloc (.cells s.cells.toArray 25)) (bsF1_run (x := .tmp 57) rfl (by kernel_rfl)) (hK1.alloc (Nat.le_trans (hle0) hb1.size) _) (fun hHeld => ?_) rdy_nil
                      simp only [Act.put, List.setIfInBounds_toArray, List.set_cons_succ, List.set_cons_zero]
                      have he2 := heap_alloc_new W1 (.cells s.cells.toArray 25)
                      have hK2 := hK1.alloc (Nat.le_trans (hle0) hb1.size) (.cells s.cells.toArray 25)
                      have hb2 : Below W1.heap.size W1 (W1.alloc (.cells s.cells.toArray 25)) := (Below.refl _ W1).alloc (Nat.le_refl _) _
                      have ho1_2 := own_skip ho1 hb2
                      have hd2 : b1 ≠ W1.heap.size := by have := (ho1.lt b1 rfl).2; omega
                      obtain ⟨b2, hbe2⟩ : ∃ b, b = W1.heap.size := ⟨_, rfl⟩
                      obtain ⟨W2, hW2⟩ : ∃ W', W' = W1.alloc (.cells s.cells.toArray 25) := ⟨_, rfl⟩
                      rw [← hW2] at hHeld hK2 hb2 he2 ho1_2
                      rw [← hbe2] at he2 hd2
                      rw [← hbe2, ← hW2]
                      clear hW2
                      refine wpAnyH_ready (rs := [4]) (by kernel_rfl) (by simp) ?_
                      obtain ⟨ga3, gc3, W3, hr3, ho3, hg3⟩ := appF W2 n0 (some ⟨b1, 0, none⟩) 0 0 [] ho1_2 (Nat.le_trans (Nat.le_trans (hle0) hb1.size) hb2.size) fa p fc (fvs (Lo.take p)) (HSrcA.out W2 hK2) p (by omega) (by omega)
                      refine rdy_val (i := 4) rfl rfl (some 56) rfl (.slice ga3 p gc3) W3 (appl_run (x := .tmp 52) (y := .tmp 55) rfl (by kernel_rfl) (by kernel_rfl) hr3) (hK2.grown hg3 (Nat.le_trans (Nat.le_trans (hle0) hb1.size) hb2.size) (fun b hb => (ho1_2.lt b hb).1)) (fun hHeld => ?_) rdy_nil
                      simp only [Act.put, List.setIfInBounds_toArray, List.set_cons_succ, List.set_cons_zero]
                      clear hr3
                      have hK3 := hK2.grown hg3 (Nat.le_trans (Nat.le_trans (hle0) hb1.size) hb2.size) (fun b hb => (ho1_2.lt b hb).1)
                      have he2_3 := (hg3.block b2 (Array.getElem?_eq_some_iff.1 he2).1 (fun e => hd2 (Option.some.inj (e : some b2 = some b1)).symm)).trans he2
                      refine wpAnyH_ready (rs := [7]) (by kernel_rfl) (by simp) ?_
                      obtain ⟨ga4, gc4, W4, hr4, ho4, hg4⟩ := appF W3 n0 ga3 p gc3 (fvs (Lo.take p)) ho3 (Nat.le_trans (Nat.le_trans (Nat.le_trans (hle0) hb1.size) hb2.size) hg3.size) (some ⟨b2, 0, none⟩) 1 1 s.cells (srcOne he2_3) k1 (by omega) (by omega)
                      refine rdy_val (i := 7) rfl rfl (some 59) rfl (.slice ga4 k1 gc4) W4 (appl_run (x := .tmp 56) (y := .tmp 58) rfl (by kernel_rfl) (by kernel_rfl) hr4) (hK3.grown hg4 (Nat.le_trans (Nat.le_trans (Nat.le_trans (hle0) hb1.size) hb2.size) hg3.size) (fun b hb => (ho3.lt b hb).1)) (fun hHeld => ?_) rdy_nil
                      simp only [Act.put, List.setIfInBounds_toArray, List.set_cons_succ, List.set_cons_zero]
                      clear hr4
                      have hK4 := hK3.grown hg4 (Nat.le_trans (Nat.le_trans (Nat.le_trans (hle0) hb1.size) hb2.size) hg3.size) (fun b hb => (ho3.lt b hb).1)
                      refine wpAnyH_ready (rs := [11]) (by kernel_rfl) (by simp) ?_
                      obtain ⟨ga5, gc5, W5, hr5, ho5, hg5⟩ := appF W4 n0 ga4 k1 gc4 (fvs (Lo.take p) ++ s.cells) ho4 (Nat.le_trans (Nat.le_trans (Nat.le_trans (Nat.le_trans (hle0) hb1.size) hb2.size) hg3.size) hg4.size) a2 m2 c2 (fvs (Lo.drop p)) (HSrcB.out W4 hK4) n9 (by omega) (by omega)
                      refine rdy_val (i := 11) rfl rfl (some 63) rfl (.slice ga5 n9 gc5) W5 (appl_run (x := .tmp 59) (y := .tmp 62) rfl (by kernel_rfl) (by kernel_rfl) hr5) (hK4.grown hg5 (Nat.le_trans (Nat.le_trans (Nat.le_trans (Nat.le_trans (hle0) hb1.size) hb2.size) hg3.size) hg4.size) (fun b hb => (ho4.lt b hb).1)) (fun hHeld => ?_) rdy_nil
                      simp only [Act.put, List.setIfInBounds_toArray, List.set_cons_succ, List.set_cons_zero]
                      clear hr5
                      have hK5 := hK4.grown hg5 (Nat.le_trans (Nat.le_trans (Nat.le_trans (Nat.le_trans (hle0) hb1.size) hb2.size) hg3.size) hg4.size) (fun b hb => (ho4.lt b hb).1)
                      refine drawn_take (i := 12) (v := .slice ga5 n9 gc5) (some 8) rfl rfl (by kernel_rfl) (by kernel_rfl) (by kernel_rfl) (fun _ _ _ h => h) (Or.inl ⟨by kernel_rfl, fun wq hw => by go_simp⟩) hHeld ?_
                      simp only [Act.put, List.setIfInBounds_toArray, List.set_cons_succ, List.set_cons_zero]
                      refine wpAnyH_done (by kernel_rfl) ?_ _
                      refine NoPanic.normal ?_
                      have hKeep := hHeld
                      clear hHeld
                      exact ⟨rfl, _, ⟨b1, ga3, gc3, b2, ga4, gc4, ga5, gc5, rfl, hK5, ho5⟩, by kernel_rfl⟩
                    refine rdy_val (i := 6) rfl rfl (some 58) rfl (.slice (some ⟨Wd.heap.size, 0, none⟩) 1 1) (Wd.alloc (.cells s.cells.toArray 25)) (bsF1_run (x := .tmp 57) rfl (by kernel_rfl)) (hK0.alloc (hle0) _) (fun hHeld => ?_) rdy_nil
                    simp only [Act.put, List.setIfInBounds_toArray, List.set_cons_succ, List.set_cons_zero]
                    have he1 := heap_alloc_new Wd (.cells s.cells.toArray 25)
                    have hK1 := hK0.alloc (hle0) (.cells s.cells.toArray 25)
                    have hb1 : Below Wd.heap.size Wd (Wd.alloc (.cells s.cells.toArray 25)) := (Below.refl _ Wd).alloc (Nat.le_refl _) _
                    obtain ⟨b1, hbe1⟩ : ∃ b, b = Wd.heap.size := ⟨_, rfl⟩
                    obtain ⟨W1, hW1⟩ : ∃ W', W' = Wd.alloc (.cells s.cells.toArray 25) := ⟨_, rfl⟩
                    rw [← hW1] at hHeld hK1 hb1 he1
                    rw [← hbe1] at he1
                    rw [← hbe1, ← hW1]
                    clear hW1
                    refine wpAnyH_ready (rs := [0]) (by kernel_rfl) (by simp) ?_
                    refine rdy_val (i := 0) rfl rfl (some 52) rfl (.slice (some ⟨W1.heap.size, 0, none⟩) 0 0) (W1.alloc (.cells #[] 25)) (mkF0_run rfl) (hK1.alloc (Nat.le_trans (hle0) hb1.size) _) (fun hHeld => ?_) rdy_nil
                    simp only [Act.put, List.setIfInBounds_toArray, List.set_cons_succ, List.set_cons_zero]
                    have he2 := heap_alloc_new W1 (.cells #[] 25)
                    have hK2 := hK1.alloc (Nat.le_trans (hle0) hb1.size) (.cells #[] 25)
                    have hb2 : Below W1.heap.size W1 (W1.alloc (.cells #[] 25)) := (Below.refl _ W1).alloc (Nat.le_refl _) _
                    have hn2 : n0 ≤ W1.heap.size := Nat.le_trans (hle0) hb1.size
                    have hd2 : W1.heap.size ≠ b1 := by have := (Array.getElem?_eq_some_iff.1 he1).1; omega
                    have he1_2 := (hb2.block b1 (Array.getElem?_eq_some_iff.1 he1).1).trans he1
                    have ho2 := own_emptyN (size := 2) he2 hn2
                    obtain ⟨b2, hbe2⟩ : ∃ b, b = W1.heap.size := ⟨_, rfl⟩
                    obtain ⟨W2, hW2⟩ : ∃ W', W' = W1.alloc (.cells #[] 25) := ⟨_, rfl⟩
                    rw [← hW2] at hHeld hK2 hb2 he2 ho2 he1_2
                    rw [← hbe2] at ho2 hd2
                    rw [← hbe2, ← hW2]
                    clear hW2 he2
                    refine wpAnyH_ready (rs := [4]) (by kernel_rfl) (by simp) ?_
                    obtain ⟨ga3, gc3, W3, hr3, ho3, hg3⟩ := appF W2 n0 (some ⟨b2, 0, none⟩) 0 0 [] ho2 (Nat.le_trans (Nat.le_trans (hle0) hb1.size) hb2.size) fa p fc (fvs (Lo.take p)) (HSrcA.out W2 hK2) p (by omega) (by omega)
                    refine rdy_val (i := 4) rfl rfl (some 56) rfl (.slice ga3 p gc3) W3 (appl_run (x := .tmp 52) (y := .tmp 55) rfl (by kernel_rfl) (by kernel_rfl) hr3) (hK2.grown hg3 (Nat.le_trans (Nat.le_trans (hle0) hb1.size) hb2.size) (fun b hb => (ho2.lt b hb).1)) (fun hHeld => ?_) rdy_nil
                    simp only [Act.put, List.setIfInBounds_toArray, List.set_cons_succ, List.set_cons_zero]
                    clear hr3
                    have hK3 := hK2.grown hg3 (Nat.le_trans (Nat.le_trans (hle0) hb1.size) hb2.size) (fun b hb => (ho2.lt b hb).1)
                    have he1_2_3 := (hg3.block b1 (Array.getElem?_eq_some_iff.1 he1_2).1 (fun e => hd2 (Option.some.inj (e : some b1 = some b2)).symm)).trans he1_2
                    refine wpAnyH_ready (rs := [7]) (by kernel_rfl) (by simp) ?_
                    obtain ⟨ga4, gc4, W4, hr4, ho4, hg4⟩ := appF W3 n0 ga3 p gc3 (fvs (Lo.take p)) ho3 (Nat.le_trans (Nat.le_trans (Nat.le_trans (hle0) hb1.size) hb2.size) hg3.size) (some ⟨b1, 0, none⟩) 1 1 s.cells (srcOne he1_2_3) k1 (by omega) (by omega)
                    refine rdy_val (i := 7) rfl rfl (some 59) rfl (.slice ga4 k1 gc4) W4 (appl_run (x := .tmp 56) (y := .tmp 58) rfl (by kernel_rfl) (by kernel_rfl) hr4) (hK3.grown hg4 (Nat.le_trans (Nat.le_trans (Nat.le_trans (hle0) hb1.size) hb2.size) hg3.size) (fun b hb => (ho3.lt b hb).1)) (fun hHeld => ?_) rdy_nil
                    simp only [Act.put, List.setIfInBounds_toArray, List.set_cons_succ, List.set_cons_zero]
                    clear hr4
                    have hK4 := hK3.grown hg4 (Nat.le_trans (Nat.le_trans (Nat.le_trans (hle0) hb1.size) hb2.size) hg3.size) (fun b hb => (ho3.lt b hb).1)
                    refine wpAnyH_ready (rs := [11]) (by kernel_rfl) (by simp) ?_
                    obtain ⟨ga5, gc5, W5, hr5, ho5, hg5⟩ := appF W4 n0 ga4 k1 gc4 (fvs (Lo.take p) ++ s.cells) ho4 (Nat.le_trans (Nat.le_trans (Nat.le_trans (Nat.le_trans (hle0) hb1.size) hb2.size) hg3.size) hg4.size) a2 m2 c2 (fvs (Lo.drop p)) (HSrcB.out W4 hK4) n9 (by omega) (by omega)
                    refine rdy_val (i := 11) rfl rfl (some 63) rfl (.slice ga5 n9 gc5) W5 (appl_run (x := .tmp 59) (y := .tmp 62) rfl (by kernel_rfl) (by kernel_rfl) hr5) (hK4.grown hg5 (Nat.le_trans (Nat.le_trans (Nat.le_trans (Nat.le_trans (hle0) hb1.size) hb2.size) hg3.size) hg4.size) (fun b hb => (ho4.lt b hb).1)) (fun hHeld => ?_) rdy_nil
                    simp only [Act.put, List.setIfInBounds_toArray, List.set_cons_succ, List.set_cons_zero]
                    clear hr5
                    have hK5 := hK4.grown hg5 (Nat.le_trans (Nat.le_trans (Nat.le_trans (Nat.le_trans (hle0) hb1.size) hb2.size) hg3.size) hg4.size) (fun b hb => (ho4.lt b hb).1)
                    refine drawn_take (i := 12) (v := .slice ga5 n9 gc5) (some 8) rfl rfl (by kernel_rfl) (by kernel_rfl) (by kernel_rfl) (fun _ _ _ h => h) (Or.inl ⟨by kernel_rfl, fun wq hw => by go_simp⟩) hHeld ?_
                    simp only [Act.put, List.setIfInBounds_toArray, List.set_cons_succ, List.set_cons_zero]
                    refine wpAnyH_done (by kernel_rfl) ?_ _
                    refine NoPanic.normal ?_
                    have hKeep := hHeld
                    clear hHeld
                    exact ⟨rfl, _, ⟨b2, ga3, gc3, b1, ga4, gc4, ga5, gc5, rfl, hK5, ho5⟩, by kernel_rfl⟩
                  · rintro li w6 ⟨b92, aA, cA, b99, aB, cB, aC, cC, rfl, hB6, ho6⟩
                    have HINS : Hid (insS Lo s = Lo.take p ++ s :: Lo.drop p) := hidn (ins_at (by rw [← HN.out]; exact hpN) HD.out (fun x h0 hx => hEN.out x h0 hx))
                    have HB6 : Below w5.heap.size w5 w6 := by rw [← HNE.out]; exact hB6
                    have HOO : Hid (w6.ownsRow w3.heap.size 25 2 (.slice aC n9 cC) (noteTo false l2 (A3.take (k + 1))).length (fvs (noteTo false l2 (A3.take (k + 1))))) := hidn (by
                      rw [HSK.out, HINS.out, fvs_append, fvs_cons, ← List.append_assoc, show (Lo.take p ++ s :: Lo.drop p).length = n9 from by rw [HN9.out, HN.out, ← List.take_append_drop p Lo]; simp [List.length_append]; omega]
                      exact own_lower ho6 (by rw [HNE.out]; exact B5.size))
                    have BW6 := B5.trans (HB6.mono B5.size)
                    clear hB6 ho6 HB6
                    simp only [putAll, List.foldl_cons, List.foldl_nil, Act.put, List.setIfInBounds_toArray, List.set_cons_succ, List.set_cons_zero]
                    rw [HG10.out]
                    go_wp2_with fail
                    exact ⟨⟨k + 1, _, by omega, by simp, rfl, HOO, BW6⟩, by simp [intOf]; omega⟩
      · have hlt2 : ¬ (k : Int) < (n3 : Int) := by omega
        have hke : A3.take k = A3 := List.take_of_length_le (by rw [HA3.out]; omega)
        have HL := hidn hO.out
        rw [hke] at HL
        have HB := hidn (B3.trans (hb.mono B3.size))
        clear hke
        go_wp2_with fail
        go_ret
        exact ⟨_, rfl, own_lower HL.out B3.size, HB.out⟩
  | true =>
    obtain ⟨a3, c3, w3, hr3, ho3, hg3⟩ := appF wX w.heap.size a' len1 c' (fvs l1) HX.out BX.size b2 len2 cap2 (fvs l2) HL2'.out.src (len1 + len2) rfl (by omega)
    have B3 : Below w.heap.size w w3 := BX.grown hg3 BX.size (fun k hk => (HX.out.lt k hk).1)
    have HRUN2 := hidn hr3
    obtain ⟨A3, hA3⟩ : ∃ A3, A3 = l1 ++ l2 := ⟨_, rfl⟩
    obtain ⟨n3, hn3⟩ : ∃ n3, n3 = len1 + len2 := ⟨_, rfl⟩
    rw [← fvs_append, ← hA3, ← hn3] at ho3
    rw [← hn3] at HRUN2
    have hn80 : n3 ≤ 80 := by omega
    have HA3 : Hid (A3.length = n3) := hidn (by rw [hA3, List.length_append, HL1.out, HL2L.out, hn3])
    have HF3 : Hid (Fls w3 a3 n3 A3) := hidn (by
      obtain ⟨va, vc, hv, hF, _⟩ := fls_of_own ho3 HA3.out
      injection hv with e1 e2 e3
      rw [e1]
      exact hF)
    rw [show noteS true l1 l2 = noteTo true l2 A3 from by rw [hA3]; rfl]
    clear HX HL1 BX HL2' bC h1 h2 hr3 ho3 hg3 hA3 hn3 HL2L
    go_enter Tryd.func9, Tryd.ntmps9
    go_wp2_with (at_builtin; first | (rw [← HWC.out]; refine wpList_app_run2 rfl _ _ 22 22 rfl rfl (.slice (some ⟨w.heap.size, 0, none⟩) 0 0) _ _ rfl rfl HRUN.out ?_; clear HRUN) | (refine wpList_app_run2 rfl _ _ 22 22 rfl rfl (.slice a' len1 c') _ _ rfl rfl HRUN2.out ?_; clear HRUN2))
    go_loopw [8, 21] (fun hv iv wr => ∃ (k : Nat) (v : Value), k ≤ n3 ∧ iv = .int .i64 (k : Int) ∧ hv = v ∧ Hid (wr.ownsRow w3.heap.size 25 2 v (noteTo true l2 (A3.take k)).length (fvs (noteTo true l2 (A3.take k)))) ∧ Below w3.heap.size w3 wr) (fun _ iv _ => n3 - (intOf iv).toNat)
    case atStart => exact ⟨0, _, Nat.zero_le _, rfl, rfl, hidn (World.ownsRow_nil _ _ _ _), Below.refl _ _⟩
    case round =>
      obtain ⟨k, v, hk, rfl, rfl, hO, hb⟩ := hrel
      by_cases hlt : k < n3
      · have hlt2 : (k : Int) < (n3 : Int) := by omega
        obtain ⟨wo, hwo⟩ : ∃ wo, wo = wr := ⟨wr, rfl⟩
        subst hwo
        obtain ⟨Lo, hLo⟩ : ∃ Lo, Lo = noteTo true l2 (A3.take k) := ⟨_, rfl⟩
        have hO1 := hO.out
        rw [← hLo] at hO1
        have HLo := hidn hLo
        have hLl : Lo.length ≤ 80 := by
          rw [hLo]
          refine Nat.le_trans (noteTo_len _ _ _) ?_
          rw [List.length_take]
          omega
        obtain ⟨N, hN⟩ : ∃ N, N = Lo.length := ⟨_, rfl⟩
        have HN := hidn hN
        rw [← hN] at hO1 hLl
        obtain ⟨fa, fc, hv, hF, hAF⟩ := fls_of_own hO1 hN.symm
        subst hv
        have HO1 := hidn hO1
        have HF := hidn hF
        clear hLo hN hO1 hO hF
        obtain ⟨s, hs⟩ : ∃ s, A3[k]? = some s := ⟨_, List.getElem?_eq_getElem (by rw [HA3.out]; exact hlt)⟩
        obtain ⟨b, off, ha3, hbk, c0, c1, _⟩ := (HF3.out.below hb).at hs
        have HS := hidn hs
        obtain ⟨wA, hwA⟩ : ∃ wA, wA = wo.alloc (.cells #[.string s.nm, .int .i64 s.ix] 25) := ⟨_, rfl⟩
        have bA : Below wo.heap.size wo wA := by rw [hwA]; exact (Below.refl _ wo).alloc (Nat.le_refl _) _
        have BA := hb.trans (bA.mono hb.size)
        have qA : wA.heap[wo.heap.size]? = some (.cells #[.string s.nm, .int .i64 s.ix] 25 (0, 0)) := by rw [hwA]; exact heap_alloc_new wo _
        have hAs : wo.heap.size < wA.heap.size := (Array.getElem?_eq_some_iff.1 qA).1
        have HWA := hidn hwA
        have HQA := hidn qA
        have f0 : wA.cell? ⟨wo.heap.size, 0, none⟩ = some (.string s.nm) := cell_of_row _ _ _ _ _ _ qA
        have f1 : wA.cell? ⟨wo.heap.size, 1, none⟩ = some (.int .i64 s.ix) := cell_of_row _ _ _ _ _ _ qA
        have HIN1 := hidn (in_any fa N fc Lo s wA (HF.out.below bA) (by omega))
        have HST : Hid (noteTo true l2 (A3.take (k + 1)) = if inS Lo s || (!true && inS l2 s) then Lo else insS Lo s) := hidn (by rw [noteTo_succ HS.out, ← HLo.out])
        clear hwA hs qA
        rw [ha3]
        go_upto_region 8 with fail
        rw [← HWA.out]
        go_wp2_with fail
        refine HIN1.out.mono ?_
        rintro e w1 ⟨rfl, b1⟩
        have h1s : wo.heap.size < w1.heap.size := Nat.lt_of_lt_of_le hAs b1.size
        have HQ1 := hidn ((b1.block _ hAs).trans HQA.out)
        have g0 : w1.cell? ⟨wo.heap.size, 0, none⟩ = some (.string s.nm) := (b1.cell (p := ⟨wo.heap.size, 0, none⟩) hAs).trans f0
        have g1 : w1.cell? ⟨wo.heap.size, 1, none⟩ = some (.int .i64 s.ix) := (b1.cell (p := ⟨wo.heap.size, 1, none⟩) hAs).trans f1
        have b1o := bA.trans (b1.mono bA.size)
        have B1 := hb.trans (b1o.mono hb.size)
        obtain ⟨r1, hr1⟩ : ∃ r1, r1 = inS Lo s := ⟨_, rfl⟩
        rw [← hr1] at HST ⊢
        have HR1 := hidn hr1
        clear hr1 f0 f1 c0 c1
        cases r1 with
        | true =>
          have HSK : Hid (noteTo true l2 (A3.take (k + 1)) = Lo) := hidn (by rw [HST.out]; simp)
          have HNN : Hid (w1.ownsRow w3.heap.size 25 2 (.slice fa N fc) (noteTo true l2 (A3.take (k + 1))).length (fvs (noteTo true l2 (A3.take (k + 1))))) := hidn (by rw [HSK.out, ← HN.out]; exact own_skip HO1.out b1o)
          go_wp2_with fail
          exact ⟨⟨k + 1, _, by omega, by simp, rfl, HNN, B1⟩, by simp [intOf]; omega⟩
        | false =>
          have HSK : Hid (noteTo true l2 (A3.take (k + 1)) = insS Lo s) := hidn (by rw [HST.out]; simp)
          obtain ⟨w4, hw4⟩ : ∃ w4, w4 = w1 := ⟨w1, rfl⟩
          have b4o := b1o
          have B4 := B1
          have h4s := h1s
          have HQ4 := HQ1
          rw [← hw4] at b4o B4 h4s HQ4
          subst hw4
          clear HST HR1
          go_wp2_with fail
          go_loopw [11] (fun iv wr => ∃ p : Nat, p ≤ N ∧ iv = .int .i64 (p : Int) ∧ Hid (∀ x ∈ Lo.drop p, lessS s x = true) ∧ Below w4.heap.size w4 wr) (fun iv _ => (intOf iv).toNat)
          case atStart => exact ⟨N, Nat.le_refl _, rfl, hidn (fun x hx => by rw [HN.out, List.drop_length] at hx; cases hx), Below.refl _ _⟩
          case round =>
            obtain ⟨p, hpN, rfl, HD, hb3⟩ := hrel
            have HQR := hidn ((hb3.block _ h4s).trans HQ4.out)
            have hrs : wo.heap.size < wr.heap.size := Nat.lt_of_lt_of_le h4s hb3.size
            go_wp2_with fail
            refine region_cut (fun li wx => ∃ (bb v40 v41 : Bool) (v42 v43 v44 v45 v46 v47 v48 : Value), li = [(39, .int .i64 (p : Int)), (40, .bool v40), (41, .bool v41), (42, v42), (43, v43), (44, v44), (45, v45), (46, v46), (47, v47), (48, v48), (49, .bool bb)] ∧ Hid ((bb = true → ∃ q x, p = q + 1 ∧ Lo[q]? = some x ∧ lessS s x = true) ∧ (bb = false → ∀ y, 0 < p → Lo[p - 1]? = some y → lessS s y = false)) ∧ Below w4.heap.size w4 wx) ?_ ?_
            · skip
              by_cases hp0 : p = 0
              · have hp1 : ¬ (0 : Int) < (p : Int) := by omega
                have HP0 := hidn hp0
                clear hp0
                refine wp_region_noPanic ?_
                refine wp_region_held_drew (S := fun w' => Below w4.heap.size w4 w') (by kernel_rfl) (hb3.drew) (fun hHeld => ?_)
                refine drawn_take (i := 0) (v := .int .i64 (p : Int)) (some 39) rfl rfl (by kernel_rfl) (by kernel_rfl) (by kernel_rfl) (fun _ _ _ h => h) (Or.inl ⟨by kernel_rfl, fun wq hw => by go_simp⟩) hHeld ?_
                simp only [Act.put, List.setIfInBounds_toArray, List.set_cons_succ, List.set_cons_zero]
                refine drawn_take (i := 1) (v := .bool false) (some 40) rfl rfl (by kernel_rfl) (by kernel_rfl) (by kernel_rfl) (fun _ _ _ h => h) (Or.inl ⟨by kernel_rfl, fun wq hw => by go_simp; omega⟩) hHeld ?_
                simp only [Act.put, List.setIfInBounds_toArray, List.set_cons_succ, List.set_cons_zero]
                refine drawn_take (i := 2) (v := .bool false) (some 41) rfl rfl (by kernel_rfl) (by kernel_rfl) (by kernel_rfl) (fun _ _ _ h => h) (Or.inl ⟨by kernel_rfl, fun wq hw => by go_simp⟩) hHeld ?_
                simp only [Act.put, List.setIfInBounds_toArray, List.set_cons_succ, List.set_cons_zero]
                refine drawn_take (i := 3) (v := undef) (some 42) rfl rfl (by kernel_rfl) (by kernel_rfl) (by kernel_rfl) (fun _ _ _ h => h) (Or.inr ⟨by kernel_rfl, rfl⟩) hHeld ?_
                simp only [Act.put, List.setIfInBounds_toArray, List.set_cons_succ, List.set_cons_zero]
                refine drawn_take (i := 4) (v := undef) (some 43) rfl rfl (by kernel_rfl) (by kernel_rfl) (by kernel_rfl) (fun _ _ _ h => h) (Or.inr ⟨by kernel_rfl, rfl⟩) hHeld ?_
                simp only [Act.put, List.setIfInBounds_toArray, List.set_cons_succ, List.set_cons_zero]
                refine drawn_take (i := 5) (v := undef) (some 44) rfl rfl (by kernel_rfl) (by kernel_rfl) (by kernel_rfl) (fun _ _ _ h => h) (Or.inr ⟨by kernel_rfl, rfl⟩) hHeld ?_
                simp only [Act.put, List.setIfInBounds_toArray, List.set_cons_succ, List.set_cons_zero]
                refine drawn_take (i := 6) (v := undef) (some 45) rfl rfl (by kernel_rfl) (by kernel_rfl) (by kernel_rfl) (fun _ _ _ h => h) (Or.inr ⟨by kernel_rfl, rfl⟩) hHeld ?_
                simp only [Act.put, List.setIfInBounds_toArray, List.set_cons_succ, List.set_cons_zero]
                refine drawn_take (i := 7) (v := undef) (some 46) rfl rfl (by kernel_rfl) (by kernel_rfl) (by kernel_rfl) (fun _ _ _ h => h) (Or.inr ⟨by kernel_rfl, rfl⟩) hHeld ?_
                simp only [Act.put, List.setIfInBounds_toArray, List.set_cons_succ, List.set_cons_zero]
                refine drawn_take (i := 8) (v := undef) (some 47) rfl rfl (by kernel_rfl) (by kernel_rfl) (by kernel_rfl) (fun _ _ _ h => h) (Or.inr ⟨by kernel_rfl, rfl⟩) hHeld ?_
                simp only [Act.put, List.setIfInBounds_toArray, List.set_cons_succ, List.set_cons_zero]
                refine drawn_take (i := 9) (v := undef) (some 48) rfl rfl (by kernel_rfl) (by kernel_rfl) (by kernel_rfl) (fun _ _ _ h => h) (Or.inr ⟨by kernel_rfl, rfl⟩) hHeld ?_
                simp only [Act.put, List.setIfInBounds_toArray, List.set_cons_succ, List.set_cons_zero]
                refine drawn_take (i := 10) (v := .bool false) (some 49) rfl rfl (by kernel_rfl) (by kernel_rfl) (by kernel_rfl) (fun _ _ _ h => h) (Or.inl ⟨by kernel_rfl, fun wq hw => by go_simp⟩) hHeld ?_
                simp only [Act.put, List.setIfInBounds_toArray, List.set_cons_succ, List.set_cons_zero]
                refine wpAnyH_done (by kernel_rfl) ?_ _
                refine NoPanic.normal ?_
                clear hHeld
                exact ⟨rfl, _, ⟨false, false, false, undef, undef, undef, undef, undef, undef, undef, rfl, hidn ⟨(fun e => by cases e), fun _ y hy => by have := HP0.out; omega⟩, hb3.drew⟩, by kernel_rfl⟩
              · obtain ⟨q, hpq⟩ : ∃ q, p = q + 1 := ⟨p - 1, by omega⟩
                obtain ⟨x, hx⟩ : ∃ x, Lo[q]? = some x := ⟨_, List.getElem?_eq_getElem (by rw [← HN.out]; omega)⟩
                obtain ⟨xb, xo, hxa, hxk, y0, y1, _⟩ := ((HF.out.below b4o).below hb3).at hx
                have hp1 : (0 : Int) < (p : Int) := by omega
                have hqi : (p : Int) - 1 = (q : Int) := by omega
                have hqN : (q : Int) < (N : Int) := by omega
                have HXX := hidn hx
                have HPQ := hidn hpq
                clear hx hp0 hpq
                rw [hxa]
                obtain ⟨wd, hwd⟩ : ∃ wd, wd = wr := ⟨wr, rfl⟩
                refine wp_region_noPanic ?_
                refine wp_region_held_drew (S := fun w' => Below wr.heap.size wr w') (by kernel_rfl) ((Below.refl _ _).drew) (fun hHeld => ?_)
                refine drawn_take (i := 0) (v := .int .i64 (p : Int)) (some 39) rfl rfl (by kernel_rfl) (by kernel_rfl) (by kernel_rfl) (fun _ _ _ h => h) (Or.inl ⟨by kernel_rfl, fun wq hw => by go_simp⟩) hHeld ?_
                simp only [Act.put, List.setIfInBounds_toArray, List.set_cons_succ, List.set_cons_zero]
                refine drawn_take (i := 1) (v := .bool true) (some 40) rfl rfl (by kernel_rfl) (by kernel_rfl) (by kernel_rfl) (fun _ _ _ h => h) (Or.inl ⟨by kernel_rfl, fun wq hw => by go_simp; omega⟩) hHeld ?_
                simp only [Act.put, List.setIfInBounds_toArray, List.set_cons_succ, List.set_cons_zero]
                refine drawn_take (i := 2) (v := .bool true) (some 41) rfl rfl (by kernel_rfl) (by kernel_rfl) (by kernel_rfl) (fun _ _ _ h => h) (Or.inl ⟨by kernel_rfl, fun wq hw => by go_simp⟩) hHeld ?_
                simp only [Act.put, List.setIfInBounds_toArray, List.set_cons_succ, List.set_cons_zero]
                refine drawn_take (i := 3) (v := s.agg) (some 42) rfl rfl (by kernel_rfl) (by kernel_rfl) (by kernel_rfl) (fun _ _ _ h => h) (Or.inl ⟨by kernel_rfl, fun wq hw => ldF_run (x := .tmp 10) (g := wo.heap.size) rfl (by kernel_rfl) ((hw.block _ hrs).trans HQR.out)⟩) hHeld ?_
                simp only [Act.put, List.setIfInBounds_toArray, List.set_cons_succ, List.set_cons_zero]
                refine drawn_take (i := 4) (v := .slice (some ⟨xb, xo, none⟩) N fc) (some 43) rfl rfl (by kernel_rfl) (by kernel_rfl) (by kernel_rfl) (fun _ _ _ h => h) (Or.inl ⟨by kernel_rfl, fun wq hw => by go_simp⟩) hHeld ?_
                simp only [Act.put, List.setIfInBounds_toArray, List.set_cons_succ, List.set_cons_zero]
                refine drawn_take (i := 5) (v := .int .i64 (p : Int)) (some 44) rfl rfl (by kernel_rfl) (by kernel_rfl) (by kernel_rfl) (fun _ _ _ h => h) (Or.inl ⟨by kernel_rfl, fun wq hw => by go_simp⟩) hHeld ?_
                simp only [Act.put, List.setIfInBounds_toArray, List.set_cons_succ, List.set_cons_zero]
                refine drawn_take (i := 6) (v := .int .i64 (q : Int)) (some 45) rfl rfl (by kernel_rfl) (by kernel_rfl) (by kernel_rfl) (fun _ _ _ h => h) (Or.inl ⟨by kernel_rfl, fun wq hw => by go_simp; first | (rw [IntKind.wrap_i64]; omega) | (unfold wrap64; omega)⟩) hHeld ?_
                simp only [Act.put, List.setIfInBounds_toArray, List.set_cons_succ, List.set_cons_zero]
                refine drawn_take (i := 7) (v := .pointer (some ⟨xb, xo + q * 2, none⟩)) (some 46) rfl rfl (by kernel_rfl) (by kernel_rfl) (by kernel_rfl) (fun _ _ _ h => h) (Or.inl ⟨by kernel_rfl, fun wq hw => by go_simp⟩) hHeld ?_
                simp only [Act.put, List.setIfInBounds_toArray, List.set_cons_succ, List.set_cons_zero]
                refine drawn_take (i := 8) (v := x.agg) (some 47) rfl rfl (by kernel_rfl) (by kernel_rfl) (by kernel_rfl) (fun _ _ _ h => h) (Or.inl ⟨by kernel_rfl, fun wq hw => by have q0 := (hw.cell (p := ⟨xb, xo + q * 2, none⟩) hxk).trans y0; have q1 := (hw.cell (p := ⟨xb, xo + q * 2 + 1, none⟩) hxk).trans y1; unfold Spt.agg; go_simp⟩) hHeld ?_
                simp only [Act.put, List.setIfInBounds_toArray, List.set_cons_succ, List.set_cons_zero]
                refine wpAnyH_ready (rs := [9]) (by kernel_rfl) (by simp) ?_
                refine rdy_callw (i := 9) rfl (by kernel_rfl) (some 48) rfl 19 #[s.agg, x.agg] (call2_run (x := 42) (y := 47) (ts := #[25, 25]) (by kernel_rfl) ENL (by kernel_rfl) (by kernel_rfl)) (fun v w' => v = .bool (lessS s x) ∧ Below wr.drew.heap.size wr.drew w') ((less_any s x _).mono fun e w' h => ⟨_, h.1, rfl, h.2⟩) (fun r w9 hR => ?_) rdy_nil
                obtain ⟨rfl, hb9⟩ := hR
                have hb8 : Below wr.heap.size wr w9 := (Below.refl _ wr).drew.trans hb9
                refine ⟨hb8, fun hHeld => ?_⟩
                simp only [Act.put, List.setIfInBounds_toArray, List.set_cons_succ, List.set_cons_zero]
                refine drawn_take (i := 10) (v := .bool (lessS s x)) (some 49) rfl rfl (by kernel_rfl) (by kernel_rfl) (by kernel_rfl) (fun _ _ _ h => h) (Or.inl ⟨by kernel_rfl, fun wq hw => by go_simp⟩) hHeld ?_
                simp only [Act.put, List.setIfInBounds_toArray, List.set_cons_succ, List.set_cons_zero]
                refine wpAnyH_done (by kernel_rfl) ?_ _
                refine NoPanic.normal ?_
                clear hHeld
                exact ⟨rfl, _, ⟨lessS s x, true, true, s.agg, .slice (some ⟨xb, xo, none⟩) N fc, .int .i64 (p : Int), .int .i64 (q : Int), .pointer (some ⟨xb, xo + q * 2, none⟩), x.agg, .bool (lessS s x), rfl, hidn ⟨fun e => ⟨q, x, HPQ.out, HXX.out, e⟩, fun e y _ hy => by
                  rw [HPQ.out, Nat.add_sub_cancel, HXX.out] at hy
                  injection hy with hy
                  rw [← hy]
                  exact e⟩, hb3.trans (hb8.mono hb3.size)⟩, by kernel_rfl⟩
            · rintro li wc ⟨bb, v40, v41, v42, v43, v44, v45, v46, v47, v48, rfl, hcb, hbc⟩
              simp only [putAll, List.foldl_cons, List.foldl_nil, Act.put, List.setIfInBounds_toArray, List.set_cons_succ, List.set_cons_zero]
              obtain ⟨hbt, hbf⟩ := hcb.out
              clear hcb
              cases bb with
              | true =>
                obtain ⟨q, x, hpq, hx, hrk⟩ := hbt rfl
                have HDQ : Hid (∀ x ∈ Lo.drop q, lessS s x = true) := hidn (fun y hy => by
                  have hql : q < Lo.length := (List.getElem?_eq_some_iff.1 hx).1
                  rw [List.drop_eq_getElem_cons hql, (List.getElem?_eq_some_iff.1 hx).2] at hy
                  rcases List.mem_cons.1 hy with rfl | hy
                  · exact hrk
                  · rw [← hpq] at hy; exact HD.out y hy)
                have hqi : (p : Int) - 1 = (q : Int) := by omega
                have hqp : q < p := by omega
                clear hbt hbf hx hrk hpq HD
                go_wp2_with fail
                refine ⟨⟨q, by omega, ?_, HDQ, hbc⟩, ?_⟩
                · simp
                · simp [intOf]; omega
              | false =>
                have hEND := hbf rfl
                obtain ⟨w5, hw5⟩ : ∃ w5, w5 = wc := ⟨wc, rfl⟩
                subst hw5
                obtain ⟨n0, hn0⟩ : ∃ n0, n0 = w5.heap.size := ⟨_, rfl⟩
                have HNE := hidn hn0
                obtain ⟨g10, hg10⟩ : ∃ g, g = wo.heap.size := ⟨_, rfl⟩
                have h4n : w4.heap.size ≤ n0 := by rw [hn0]; exact hbc.size
                have hg9 : g10 < n0 := by rw [hg10]; exact Nat.lt_of_lt_of_le h4s h4n
                have HQ9 : Hid (w5.heap[g10]? = some (.cells s.cells.toArray 25 (0, 0))) := hidn (by rw [hg10]; exact (hbc.block _ h4s).trans HQ4.out)
                rw [← hg10]
                have b5o := b4o.trans (hbc.mono b4o.size)
                have B5 := hb.trans (b5o.mono hb.size)
                have HF5 := hidn (HF.out.below b5o)
                obtain ⟨k1, hk1⟩ : ∃ k1, k1 = p + 1 := ⟨_, rfl⟩
                obtain ⟨m2, hm2'⟩ : ∃ m2, m2 = N - p := ⟨_, rfl⟩
                obtain ⟨c2, hc2⟩ : ∃ c2, c2 = fc - p := ⟨_, rfl⟩
                obtain ⟨a2, ha2⟩ : ∃ a2 : Option Addr, a2 = lowF fa fc p := ⟨_, rfl⟩
                obtain ⟨n9, hn9⟩ : ∃ n9, n9 = k1 + m2 := ⟨_, rfl⟩
                have hn9' : n9 = N + 1 := by omega
                have HA2 := hidn ha2
                have HM2 := hidn hm2'
                have HC2 := hidn hc2
                have HN9 := hidn hn9'
                have HSrcA : Hid (∀ W, Below n0 w5 W → SrcF W fa p (fvs (Lo.take p))) := hidn (fun W hW => ((HF5.out.below (by rw [← HNE.out]; exact hW)).take p hpN).src)
                have HSrcB : Hid (∀ W, Below n0 w5 W → SrcF W a2 m2 (fvs (Lo.drop p))) := hidn (fun W hW => by rw [ha2, hm2']; exact (HF5.out.below (by rw [← HNE.out]; exact hW)).low hAF hpN)
                have hEN := hidn hEND
                have HG10 := hidn hg10
                clear hbt hbf hn0 ha2 hc2 hn9' hEND hg10
                go_wp2_with fail
                refine region_cut (fun li w' => ∃ (b92 : Nat) (aA : Option Addr) (cA : Nat) (b99 : Nat) (aB : Option Addr) (cB : Nat) (aC : Option Addr) (cC : Nat), li = [(52, .slice (some ⟨b92, 0, none⟩) 0 0), (53, .slice fa N fc), (54, .int .i64 (p : Int)), (55, .slice fa p fc), (56, .slice aA p cA), (57, s.agg), (58, .slice (some ⟨b99, 0, none⟩) 1 1), (59, .slice aB k1 cB), (60, .slice fa N fc), (61, .int .i64 (p : Int)), (62, .slice a2 m2 c2), (63, .slice aC n9 cC), (8, .slice aC n9 cC)] ∧ Below n0 w5 w' ∧ w'.ownsRow n0 25 2 (.slice aC n9 cC) n9 (fvs (Lo.take p) ++ s.cells ++ fvs (Lo.drop p))) ?_ ?_
                · skip
                  refine wp_region_noPanic ?_
                  refine wp_region_held_drew (S := Below n0 w5) (by kernel_rfl) ((Below.refl n0 w5).drew) (fun hHeld => ?_)
                  obtain ⟨Wd, hWd⟩ : ∃ Wd, Wd = w5.drew := ⟨_, rfl⟩
                  have hle0 : n0 ≤ Wd.heap.size := by rw [hWd]; exact Nat.le_of_eq HNE.out
                  have hK0 : Below n0 w5 Wd := by rw [hWd]; exact (Below.refl n0 w5).drew
                  rw [← hWd] at hHeld ⊢
                  clear hWd
                  refine drawn_take (i := 1) (v := .slice fa N fc) (some 53) rfl rfl (by kernel_rfl) (by kernel_rfl) (by kernel_rfl) (fun _ _ _ h => h) (Or.inl ⟨by kernel_rfl, fun wq hw => by go_simp⟩) hHeld ?_
                  simp only [Act.put, List.setIfInBounds_toArray, List.set_cons_succ, List.set_cons_zero]
                  refine drawn_take (i := 2) (v := .int .i64 (p : Int)) (some 54) rfl rfl (by kernel_rfl) (by kernel_rfl) (by kernel_rfl) (fun _ _ _ h => h) (Or.inl ⟨by kernel_rfl, fun wq hw => by go_simp⟩) hHeld ?_
                  simp only [Act.put, List.setIfInBounds_toArray, List.set_cons_succ, List.set_cons_zero]
                  refine drawn_take (i := 3) (v := .slice fa p fc) (some 55) rfl rfl (by kernel_rfl) (by kernel_rfl) (by kernel_rfl) (fun _ _ _ h => h) (Or.inl ⟨by kernel_rfl, fun wq hw => slHF_run (x := .tmp 53) (z := .tmp 54) (N := N) rfl (by kernel_rfl) (by kernel_rfl) hAF hpN⟩) hHeld ?_
                  simp only [Act.put, List.setIfInBounds_toArray, List.set_cons_succ, List.set_cons_zero]
                  refine drawn_take (i := 5) (v := s.agg) (some 57) rfl rfl (by kernel_rfl) (by kernel_rfl) (by kernel_rfl) (fun _ _ _ h => h) (Or.inl ⟨by kernel_rfl, fun wq hw => ldF_run (x := .tmp 10) (g := g10) rfl (by kernel_rfl) ((hw.block _ hg9).trans HQ9.out)⟩) hHeld ?_
                  simp only [Act.put, List.setIfInBounds_toArray, List.set_cons_succ, List.set_cons_zero]
                  refine drawn_take (i := 8) (v := .slice fa N fc) (some 60) rfl rfl (by kernel_rfl) (by kernel_rfl) (by kernel_rfl) (fun _ _ _ h => h) (Or.inl ⟨by kernel_rfl, fun wq hw => by go_simp⟩) hHeld ?_
                  simp only [Act.put, List.setIfInBounds_toArray, List.set_cons_succ, List.set_cons_zero]
                  refine drawn_take (i := 9) (v := .int .i64 (p : Int)) (some 61) rfl rfl (by kernel_rfl) (by kernel_rfl) (by kernel_rfl) (fun _ _ _ h => h) (Or.inl ⟨by kernel_rfl, fun wq hw => by go_simp⟩) hHeld ?_
                  simp only [Act.put, List.setIfInBounds_toArray, List.set_cons_succ, List.set_cons_zero]
                  refine drawn_take (i := 10) (v := .slice a2 m2 c2) (some 62) rfl rfl (by kernel_rfl) (by kernel_rfl) (by kernel_rfl) (fun _ _ _ h => h) (Or.inl ⟨by kernel_rfl, fun wq hw => slLF_run (x := .tmp 60) (z := .tmp 61) (fa := fa) (N := N) (fc := fc) (k := p) rfl (by kernel_rfl) (by kernel_rfl) hAF hpN HA2 HM2 HC2⟩) hHeld ?_
                  simp only [Act.put, List.setIfInBounds_toArray, List.set_cons_succ, List.set_cons_zero]
                  refine wpAnyH_ready (rs := [0, 6]) (by kernel_rfl) (by simp) ?_
                  refine rdy_val (i := 0) rfl rfl (some 52) rfl (.slice (some ⟨Wd.heap.size, 0, none⟩) 0 0) (Wd.alloc (.cells #[] 25)) (mkF0_run rfl) (hK0.alloc (hle0) _) (fun hHeld => ?_) ?_
                  · simp only [Act.put, List.setIfInBounds_toArray, List.set_cons_succ, List.set_cons_zero]
                    have he1 := heap_alloc_new Wd (.cells #[] 25)
                    have hK1 := hK0.alloc (hle0) (.cells #[] 25)
                    have hb1 : Below Wd.heap.size Wd (Wd.alloc (.cells #[] 25)) := (Below.refl _ Wd).alloc (Nat.le_refl _) _
                    have hn1 : n0 ≤ Wd.heap.size := hle0
                    have ho1 := own_emptyN (size := 2) he1 hn1
                    obtain ⟨b1, hbe1⟩ : ∃ b, b = Wd.heap.size := ⟨_, rfl⟩
                    obtain ⟨W1, hW1⟩ : ∃ W', W' = Wd.alloc (.cells #[] 25) := ⟨_, rfl⟩
                    rw [← hW1] at hHeld hK1 hb1 he1 ho1
                    rw [← hbe1] at ho1
                    rw [← hbe1, ← hW1]
                    clear hW1 he1
                    refine wpAnyH_ready (rs := [4, 6]) (by kernel_rfl) (by simp) ?_
                    obtain ⟨ga2, gc2, W2, hr2, ho2, hg2⟩ := appF W1 n0 (some ⟨b1, 0, none⟩) 0 0 [] ho1 (Nat.le_trans (hle0) hb1.size) fa p fc (fvs (Lo.take p)) (HSrcA.out W1 hK1) p (by omega) (by omega)
                    refine rdy_val (i := 4) rfl rfl (some 56) rfl (.slice ga2 p gc2) W2 (appl_run (x := .tmp 52) (y := .tmp 55) rfl (by kernel_rfl) (by kernel_rfl) hr2) (hK1.grown hg2 (Nat.le_trans (hle0) hb1.size) (fun b hb => (ho1.lt b hb).1)) (fun hHeld => ?_) ?_
                    · simp only [Act.put, List.setIfInBounds_toArray, List.set_cons_succ, List.set_cons_zero]
                      clear hr2
                      have hK2 := hK1.grown hg2 (Nat.le_trans (hle0) hb1.size) (fun b hb => (ho1.lt b hb).1)
                      refine wpAnyH_ready (rs := [6]) (by kernel_rfl) (by simp) ?_
                      refine rdy_val (i := 6) rfl rfl (some 58) rfl (.slice (some ⟨W2.heap.size, 0, none⟩) 1 1) (W2.alloc (.cells s.cells.toArray 25)) (bsF1_run (x := .tmp 57) rfl (by kernel_rfl)) (hK2.alloc (Nat.le_trans (Nat.le_trans (hle0) hb1.size) hg2.size) _) (fun hHeld => ?_) rdy_nil
                      simp only [Act.put, List.setIfInBounds_toArray, List.set_cons_succ, List.set_cons_zero]
                      have he3 := heap_alloc_new W2 (.cells s.cells.toArray 25)
                      have hK3 := hK2.alloc (Nat.le_trans (Nat.le_trans (hle0) hb1.size) hg2.size) (.cells s.cells.toArray 25)
                      have hb3 : Below W2.heap.size W2 (W2.alloc (.cells s.cells.toArray 25)) := (Below.refl _ W2).alloc (Nat.le_refl _) _
                      have ho2_3 := own_skip ho2 hb3
                      obtain ⟨b3, hbe3⟩ : ∃ b, b = W2.heap.size := ⟨_, rfl⟩
                      obtain ⟨W3, hW3⟩ : ∃ W', W' = W2.alloc (.cells s.cells.toArray 25) := ⟨_, rfl⟩
                      rw [← hW3] at hHeld hK3 hb3 he3 ho2_3
                      rw [← hbe3] at he3
                      rw [← hbe3, ← hW3]
                      clear hW3
                      refine wpAnyH_ready (rs := [7]) (by kernel_rfl) (by simp) ?_
                      obtain ⟨ga4, gc4, W4, hr4, ho4, hg4⟩ := appF W3 n0 ga2 p gc2 (fvs (Lo.take p)) ho2_3 (Nat.le_trans (Nat.le_trans (Nat.le_trans (hle0) hb1.size) hg2.size) hb3.size) (some ⟨b3, 0, none⟩) 1 1 s.cells (srcOne he3) k1 (by omega) (by omega)
                      refine rdy_val (i := 7) rfl rfl (some 59) rfl (.slice ga4 k1 gc4) W4 (appl_run (x := .tmp 56) (y := .tmp 58) rfl (by kernel_rfl) (by kernel_rfl) hr4) (hK3.grown hg4 (Nat.le_trans (Nat.le_trans (Nat.le_trans (hle0) hb1.size) hg2.size) hb3.size) (fun b hb => (ho2_3.lt b hb).1)) (fun hHeld => ?_) rdy_nil
                      simp only [Act.put, List.setIfInBounds_toArray, List.set_cons_succ, List.set_cons_zero]
                      clear hr4
                      have hK4 := hK3.grown hg4 (Nat.le_trans (Nat.le_trans (Nat.le_trans (hle0) hb1.size) hg2.size) hb3.size) (fun b hb => (ho2_3.lt b hb).1)
                      refine wpAnyH_ready (rs := [11]) (by kernel_rfl) (by simp) ?_
                      obtain ⟨ga5, gc5, W5, hr5, ho5, hg5⟩ := appF W4 n0 ga4 k1 gc4 (fvs (Lo.take p) ++ s.cells) ho4 (Nat.le_trans (Nat.le_trans (Nat.le_trans (Nat.le_trans (hle0) hb1.size) hg2.size) hb3.size) hg4.size) a2 m2 c2 (fvs (Lo.drop p)) (HSrcB.out W4 hK4) n9 (by omega) (by omega)
                      refine rdy_val (i := 11) rfl rfl (some 63) rfl (.slice ga5 n9 gc5) W5 (appl_run (x := .tmp 59) (y := .tmp 62) rfl (by kernel_rfl) (by kernel_rfl) hr5) (hK4.grown hg5 (Nat.le_trans (Nat.le_trans (Nat.le_trans (Nat.le_trans (hle0) hb1.size) hg2.size) hb3.size) hg4.size) (fun b hb => (ho4.lt b hb).1)) (fun hHeld => ?_) rdy_nil
                      simp only [Act.put, List.setIfInBounds_toArray, List.set_cons_succ, List.set_cons_zero]
                      clear hr5
                      have hK5 := hK4.grown hg5 (Nat.le_trans (Nat.le_trans (Nat.le_trans (Nat.le_trans (hle0) hb1.size) hg2.size) hb3.size) hg4.size) (fun b hb => (ho4.lt b hb).1)
                      refine drawn_take (i := 12) (v := .slice ga5 n9 gc5) (some 8) rfl rfl (by kernel_rfl) (by kernel_rfl) (by kernel_rfl) (fun _ _ _ h => h) (Or.inl ⟨by kernel_rfl, fun wq hw => by go_simp⟩) hHeld ?_
                      simp only [Act.put, List.setIfInBounds_toArray, List.set_cons_succ, List.set_cons_zero]
                      refine wpAnyH_done (by kernel_rfl) ?_ _
                      refine NoPanic.normal ?_
                      have hKeep := hHeld
                      clear hHeld
                      exact ⟨rfl, _, ⟨b1, ga2, gc2, b3, ga4, gc4, ga5, gc5, rfl, hK5, ho5⟩, by kernel_rfl⟩
                    refine rdy_val (i := 6) rfl rfl (some 58) rfl (.slice (some ⟨W1.heap.size, 0, none⟩) 1 1) (W1.alloc (.cells s.cells.toArray 25)) (bsF1_run (x := .tmp 57) rfl (by kernel_rfl)) (hK1.alloc (Nat.le_trans (hle0) hb1.size) _) (fun hHeld => ?_) rdy_nil
                    simp only [Act.put, List.setIfInBounds_toArray, List.set_cons_succ, List.set_cons_zero]
                    have he2 := heap_alloc_new W1 (.cells s.cells.toArray 25)
                    have hK2 := hK1.alloc (Nat.le_trans (hle0) hb1.size) (.cells s.cells.toArray 25)
                    have hb2 : Below W1.heap.size W1 (W1.alloc (.cells s.cells.toArray 25)) := (Below.refl _ W1).alloc (Nat.le_refl _) _
                    have ho1_2 := own_skip ho1 hb2
                    have hd2 : b1 ≠ W1.heap.size := by have := (ho1.lt b1 rfl).2; omega
                    obtain ⟨b2, hbe2⟩ : ∃ b, b = W1.heap.size := ⟨_, rfl⟩
                    obtain ⟨W2, hW2⟩ : ∃ W', W' = W1.alloc (.cells s.cells.toArray 25) := ⟨_, rfl⟩
                    rw [← hW2] at hHeld hK2 hb2 he2 ho1_2
                    rw [← hbe2] at he2 hd2
                    rw [← hbe2, ← hW2]
                    clear hW2
                    refine wpAnyH_ready (rs := [4]) (by kernel_rfl) (by simp) ?_
                    obtain ⟨ga3, gc3, W3, hr3, ho3, hg3⟩ := appF W2 n0 (some ⟨b1, 0, none⟩) 0 0 [] ho1_2 (Nat.le_trans (Nat.le_trans (hle0) hb1.size) hb2.size) fa p fc (fvs (Lo.take p)) (HSrcA.out W2 hK2) p (by omega) (by omega)
                    refine rdy_val (i := 4) rfl rfl (some 56) rfl (.slice ga3 p gc3) W3 (appl_run (x := .tmp 52) (y := .tmp 55) rfl (by kernel_rfl) (by kernel_rfl) hr3) (hK2.grown hg3 (Nat.le_trans (Nat.le_trans (hle0) hb1.size) hb2.size) (fun b hb => (ho1_2.lt b hb).1)) (fun hHeld => ?_) rdy_nil
                    simp only [Act.put, List.setIfInBounds_toArray, List.set_cons_succ, List.set_cons_zero]
                    clear hr3
                    have hK3 := hK2.grown hg3 (Nat.le_trans (Nat.le_trans (hle0) hb1.size) hb2.size) (fun b hb => (ho1_2.lt b hb).1)
                    have he2_3 := (hg3.block b2 (Array.getElem?_eq_some_iff.1 he2).1 (fun e => hd2 (Option.some.inj (e : some b2 = some b1)).symm)).trans he2
                    refine wpAnyH_ready (rs := [7]) (by kernel_rfl) (by simp) ?_
                    obtain ⟨ga4, gc4, W4, hr4, ho4, hg4⟩ := appF W3 n0 ga3 p gc3 (fvs (Lo.take p)) ho3 (Nat.le_trans (Nat.le_trans (Nat.le_trans (hle0) hb1.size) hb2.size) hg3.size) (some ⟨b2, 0, none⟩) 1 1 s.cells (srcOne he2_3) k1 (by omega) (by omega)
                    refine rdy_val (i := 7) rfl rfl (some 59) rfl (.slice ga4 k1 gc4) W4 (appl_run (x := .tmp 56) (y := .tmp 58) rfl (by kernel_rfl) (by kernel_rfl) hr4) (hK3.grown hg4 (Nat.le_trans (Nat.le_trans (Nat.le_trans (hle0) hb1.size) hb2.size) hg3.size) (fun b hb => (ho3.lt b hb).1)) (fun hHeld => ?_) rdy_nil
                    simp only [Act.put, List.setIfInBounds_toArray, List.set_cons_succ, List.set_cons_zero]
                    clear hr4
                    have hK4 := hK3.grown hg4 (Nat.le_trans (Nat.le_trans (Nat.le_trans (hle0) hb1.size) hb2.size) hg3.size) (fun b hb => (ho3.lt b hb).1)
                    refine wpAnyH_ready (rs := [11]) (by kernel_rfl) (by simp) ?_
                    obtain ⟨ga5, gc5, W5, hr5, ho5, hg5⟩ := appF W4 n0 ga4 k1 gc4 (fvs (Lo.take p) ++ s.cells) ho4 (Nat.le_trans (Nat.le_trans (Nat.le_trans (Nat.le_trans (hle0) hb1.size) hb2.size) hg3.size) hg4.size) a2 m2 c2 (fvs (Lo.drop p)) (HSrcB.out W4 hK4) n9 (by omega) (by omega)
                    refine rdy_val (i := 11) rfl rfl (some 63) rfl (.slice ga5 n9 gc5) W5 (appl_run (x := .tmp 59) (y := .tmp 62) rfl (by kernel_rfl) (by kernel_rfl) hr5) (hK4.grown hg5 (Nat.le_trans (Nat.le_trans (Nat.le_trans (Nat.le_trans (hle0) hb1.size) hb2.size) hg3.size) hg4.size) (fun b hb => (ho4.lt b hb).1)) (fun hHeld => ?_) rdy_nil
                    simp only [Act.put, List.setIfInBounds_toArray, List.set_cons_succ, List.set_cons_zero]
                    clear hr5
                    have hK5 := hK4.grown hg5 (Nat.le_trans (Nat.le_trans (Nat.le_trans (Nat.le_trans (hle0) hb1.size) hb2.size) hg3.size) hg4.size) (fun b hb => (ho4.lt b hb).1)
                    refine drawn_take (i := 12) (v := .slice ga5 n9 gc5) (some 8) rfl rfl (by kernel_rfl) (by kernel_rfl) (by kernel_rfl) (fun _ _ _ h => h) (Or.inl ⟨by kernel_rfl, fun wq hw => by go_simp⟩) hHeld ?_
                    simp only [Act.put, List.setIfInBounds_toArray, List.set_cons_succ, List.set_cons_zero]
                    refine wpAnyH_done (by kernel_rfl) ?_ _
                    refine NoPanic.normal ?_
                    have hKeep := hHeld
                    clear hHeld
                    exact ⟨rfl, _, ⟨b1, ga3, gc3, b2, ga4, gc4, ga5, gc5, rfl, hK5, ho5⟩, by kernel_rfl⟩
                  refine rdy_val (i := 6) rfl rfl (some 58) rfl (.slice (some ⟨Wd.heap.size, 0, none⟩) 1 1) (Wd.alloc (.cells s.cells.toArray 25)) (bsF1_run (x := .tmp 57) rfl (by kernel_rfl)) (hK0.alloc (hle0) _) (fun hHeld => ?_) rdy_nil
                  simp only [Act.put, List.setIfInBounds_toArray, List.set_cons_succ, List.set_cons_zero]
                  have he1 := heap_alloc_new Wd (.cells s.cells.toArray 25)
                  have hK1 := hK0.alloc (hle0) (.cells s.cells.toArray 25)
                  have hb1 : Below Wd.heap.size Wd (Wd.alloc (.cells s.cells.toArray 25)) := (Below.refl _ Wd).alloc (Nat.le_refl _) _
                  obtain ⟨b1, hbe1⟩ : ∃ b, b = Wd.heap.size := ⟨_, rfl⟩
                  obtain ⟨W1, hW1⟩ : ∃ W', W' = Wd.alloc (.cells s.cells.toArray 25) := ⟨_, rfl⟩
                  rw [← hW1] at hHeld hK1 hb1 he1
                  rw [← hbe1] at he1
                  rw [← hbe1, ← hW1]
                  clear hW1
                  refine wpAnyH_ready (rs := [0]) (by kernel_rfl) (by simp) ?_
                  refine rdy_val (i := 0) rfl rfl (some 52) rfl (.slice (some ⟨W1.heap.size, 0, none⟩) 0 0) (W1.alloc (.cells #[] 25)) (mkF0_run rfl) (hK1.alloc (Nat.le_trans (hle0) hb1.size) _) (fun hHeld => ?_) rdy_nil
                  simp only [Act.put, List.setIfInBounds_toArray, List.set_cons_succ, List.set_cons_zero]
                  have he2 := heap_alloc_new W1 (.cells #[] 25)
                  have hK2 := hK1.alloc (Nat.le_trans (hle0) hb1.size) (.cells #[] 25)
                  have hb2 : Below W1.heap.size W1 (W1.alloc (.cells #[] 25)) := (Below.refl _ W1).alloc (Nat.le_refl _) _
                  have hn2 : n0 ≤ W1.heap.size := Nat.le_trans (hle0) hb1.size
                  have hd2 : W1.heap.size ≠ b1 := by have := (Array.getElem?_eq_some_iff.1 he1).1; omega
                  have he1_2 := (hb2.block b1 (Array.getElem?_eq_some_iff.1 he1).1).trans he1
                  have ho2 := own_emptyN (size := 2) he2 hn2
                  obtain ⟨b2, hbe2⟩ : ∃ b, b = W1.heap.size := ⟨_, rfl⟩
                  obtain ⟨W2, hW2⟩ : ∃ W', W' = W1.alloc (.cells #[] 25) := ⟨_, rfl⟩
                  rw [← hW2] at hHeld hK2 hb2 he2 ho2 he1_2
                  rw [← hbe2] at ho2 hd2
                  rw [← hbe2, ← hW2]
                  clear hW2 he2
                  refine wpAnyH_ready (rs := [4]) (by kernel_rfl) (by simp) ?_
                  obtain ⟨ga3, gc3, W3, hr3, ho3, hg3⟩ := appF W2 n0 (some ⟨b2, 0, none⟩) 0 0 [] ho2 (Nat.le_trans (Nat.le_trans (hle0) hb1.size) hb2.size) fa p fc (fvs (Lo.take p)) (HSrcA.out W2 hK2) p (by omega) (by omega)
                  refine rdy_val (i := 4) rfl rfl (some 56) rfl (.slice ga3 p gc3) W3 (appl_run (x := .tmp 52) (y := .tmp 55) rfl (by kernel_rfl) (by kernel_rfl) hr3) (hK2.grown hg3 (Nat.le_trans (Nat.le_trans (hle0) hb1.size) hb2.size) (fun b hb => (ho2.lt b hb).1)) (fun hHeld => ?_) rdy_nil
                  simp only [Act.put, List.setIfInBounds_toArray, List.set_cons_succ, List.set_cons_zero]
                  clear hr3
                  have hK3 := hK2.grown hg3 (Nat.le_trans (Nat.le_trans (hle0) hb1.size) hb2.size) (fun b hb => (ho2.lt b hb).1)
                  have he1_2_3 := (hg3.block b1 (Array.getElem?_eq_some_iff.1 he1_2).1 (fun e => hd2 (Option.some.inj (e : some b1 = some b2)).symm)).trans he1_2
                  refine wpAnyH_ready (rs := [7]) (by kernel_rfl) (by simp) ?_
                  obtain ⟨ga4, gc4, W4, hr4, ho4, hg4⟩ := appF W3 n0 ga3 p gc3 (fvs (Lo.take p)) ho3 (Nat.le_trans (Nat.le_trans (Nat.le_trans (hle0) hb1.size) hb2.size) hg3.size) (some ⟨b1, 0, none⟩) 1 1 s.cells (srcOne he1_2_3) k1 (by omega) (by omega)
                  refine rdy_val (i := 7) rfl rfl (some 59) rfl (.slice ga4 k1 gc4) W4 (appl_run (x := .tmp 56) (y := .tmp 58) rfl (by kernel_rfl) (by kernel_rfl) hr4) (hK3.grown hg4 (Nat.le_trans (Nat.le_trans (Nat.le_trans (hle0) hb1.size) hb2.size) hg3.size) (fun b hb => (ho3.lt b hb).1)) (fun hHeld => ?_) rdy_nil
                  simp only [Act.put, List.setIfInBounds_toArray, List.set_cons_succ, List.set_cons_zero]
                  clear hr4
                  have hK4 := hK3.grown hg4 (Nat.le_trans (Nat.le_trans (Nat.le_trans (hle0) hb1.size) hb2.size) hg3.size) (fun b hb => (ho3.lt b hb).1)
                  refine wpAnyH_ready (rs := [11]) (by kernel_rfl) (by simp) ?_
                  obtain ⟨ga5, gc5, W5, hr5, ho5, hg5⟩ := appF W4 n0 ga4 k1 gc4 (fvs (Lo.take p) ++ s.cells) ho4 (Nat.le_trans (Nat.le_trans (Nat.le_trans (Nat.le_trans (hle0) hb1.size) hb2.size) hg3.size) hg4.size) a2 m2 c2 (fvs (Lo.drop p)) (HSrcB.out W4 hK4) n9 (by omega) (by omega)
                  refine rdy_val (i := 11) rfl rfl (some 63) rfl (.slice ga5 n9 gc5) W5 (appl_run (x := .tmp 59) (y := .tmp 62) rfl (by kernel_rfl) (by kernel_rfl) hr5) (hK4.grown hg5 (Nat.le_trans (Nat.le_trans (Nat.le_trans (Nat.le_trans (hle0) hb1.size) hb2.size) hg3.size) hg4.size) (fun b hb => (ho4.lt b hb).1)) (fun hHeld => ?_) rdy_nil
                  simp only [Act.put, List.setIfInBounds_toArray, List.set_cons_succ, List.set_cons_zero]
                  clear hr5
                  have hK5 := hK4.grown hg5 (Nat.le_trans (Nat.le_trans (Nat.le_trans (Nat.le_trans (hle0) hb1.size) hb2.size) hg3.size) hg4.size) (fun b hb => (ho4.lt b hb).1)
                  refine drawn_take (i := 12) (v := .slice ga5 n9 gc5) (some 8) rfl rfl (by kernel_rfl) (by kernel_rfl) (by kernel_rfl) (fun _ _ _ h => h) (Or.inl ⟨by kernel_rfl, fun wq hw => by go_simp⟩) hHeld ?_
                  simp only [Act.put, List.setIfInBounds_toArray, List.set_cons_succ, List.set_cons_zero]
                  refine wpAnyH_done (by kernel_rfl) ?_ _
                  refine NoPanic.normal ?_
                  have hKeep := hHeld
                  clear hHeld
                  exact ⟨rfl, _, ⟨b2, ga3, gc3, b1, ga4, gc4, ga5, gc5, rfl, hK5, ho5⟩, by kernel_rfl⟩
                · rintro li w6 ⟨b92, aA, cA, b99, aB, cB, aC, cC, rfl, hB6, ho6⟩
                  have HINS : Hid (insS Lo s = Lo.take p ++ s :: Lo.drop p) := hidn (ins_at (by rw [← HN.out]; exact hpN) HD.out (fun x h0 hx => hEN.out x h0 hx))
                  have HB6 : Below w5.heap.size w5 w6 := by rw [← HNE.out]; exact hB6
                  have HOO : Hid (w6.ownsRow w3.heap.size 25 2 (.slice aC n9 cC) (noteTo true l2 (A3.take (k + 1))).length (fvs (noteTo true l2 (A3.take (k + 1))))) := hidn (by
                    rw [HSK.out, HINS.out, fvs_append, fvs_cons, ← List.append_assoc, show (Lo.take p ++ s :: Lo.drop p).length = n9 from by rw [HN9.out, HN.out, ← List.take_append_drop p Lo]; simp [List.length_append]; omega]
                    exact own_lower ho6 (by rw [HNE.out]; exact B5.size))
                  have BW6 := B5.trans (HB6.mono B5.size)
                  clear hB6 ho6 HB6
                  simp only [putAll, List.foldl_cons, List.foldl_nil, Act.put, List.setIfInBounds_toArray, List.set_cons_succ, List.set_cons_zero]
                  rw [HG10.out]
                  go_wp2_with fail
                  exact ⟨⟨k + 1, _, by omega, by simp, rfl, HOO, BW6⟩, by simp [intOf]; omega⟩
      · have hlt2 : ¬ (k : Int) < (n3 : Int) := by omega
        have hke : A3.take k = A3 := List.take_of_length_le (by rw [HA3.out]; omega)
        have HL := hidn hO.out
        rw [hke] at HL
        have HB := hidn (B3.trans (hb.mono B3.size))
        clear hke
        go_wp2_with fail
        go_ret
        exact ⟨_, rfl, own_lower HL.out B3.size, HB.out⟩

end Go.Proofs.YtidlogeeophogaaDoor.Sp
