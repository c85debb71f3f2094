/- The document's disk: what Write of a new file needs. -/
import Derived.Test.YtocfbokgbpaneaaRyM
import Derived.Test.YtocfbokgbpaneaaRyH
namespace Go.Proofs.Ytocfbokgbpaneaa
open Go.RowKit Go.Maps
set_option linter.unusedVariables false

/-- Where a row of files begins: nowhere, or at a block's start. -/
theorem files_at {w : World} {base e size n : Nat} {fa : Option Addr} {m fc : Nat} {xs : List Value} (h : w.ownsRow base e size (.slice fa m fc) n xs) : (fa = none ∧ m = 0 ∧ fc = 0) ∨ (∃ g, fa = some ⟨g, 0, none⟩ ∧ m ≤ fc) := by
  rcases h.2 with ⟨h1, h0⟩ | ⟨g, cap, cur, hv, _, _, hle, _⟩
  · cases h1
    exact .inl ⟨rfl, rfl, rfl⟩
  · cases hv
    exact .inr ⟨g, rfl, hle⟩

/-- Where the part behind so many files begins. -/
def lowA (fa : Option Addr) (fc k : Nat) : Option Addr := match fa with
  | none => none
  | some ⟨g, o, sp⟩ => if fc = k then some ⟨g, o, sp⟩ else some ⟨g, o + k * 2, sp⟩

theorem slHO_run {o : Oper} {a : Act} {w : World} {x z : Operand} {fa : Option Addr} {N fc k : Nat} (ho : o.op = Op.slice 50 x none (some z) none) (hx : a.eval x = .slice fa N fc) (hz : a.eval z = .int .i64 (k : Int)) (hfa : (fa = none ∧ N = 0 ∧ fc = 0) ∨ (∃ g, fa = some ⟨g, 0, none⟩ ∧ N ≤ fc)) (hk : k ≤ N) : (execOp a.eval o).run Try.prog w = .ok (.value (.slice fa k fc)) w := by
  rcases hfa with ⟨rfl, rfl, rfl⟩ | ⟨g, rfl, hle⟩
  · have h2 : (Instr.slice 50 (.slice none 0 0) none (some (.int .i64 (k : Int))) none).run Try.prog w = .ok (.slice none k 0) w := by
      rw [run_slice_h (P := Try.prog) w 50 none 0 0 (by kernel_rfl) .i64 (k : Int) (by omega) (by omega)]
      have hsz : (sizeOf (Try.prog.elem 50)).run Try.prog w = .ok 2 w := by kernel_rfl
      rw [hsz]
      simp [Result.andThen, sliced]
    have hs := (run_sliceAt_slice (P := Try.prog) (w := w) 50 (.slice none 0 0) none (some (.int .i64 (k : Int))) none (by kernel_rfl)).trans h2
    simp [execOp, ho, hx, hz, hs, Result.andThen]
  · exact slH_run ho hx hz (by omega)

theorem slLO_run {o : Oper} {a : Act} {w : World} {x z : Operand} {fa : Option Addr} {N fc k m2 c2 : Nat} {a2 : Option Addr} (ho : o.op = Op.slice 50 x (some z) none none) (hx : a.eval x = .slice fa N fc) (hz : a.eval z = .int .i64 (k : Int)) (hfa : (fa = none ∧ N = 0 ∧ fc = 0) ∨ (∃ g, fa = some ⟨g, 0, none⟩ ∧ N ≤ fc)) (hk : k ≤ N) (HA : Hid (a2 = lowA fa fc k)) (HM : Hid (m2 = N - k)) (HC : Hid (c2 = fc - k)) : (execOp a.eval o).run Try.prog w = .ok (.value (.slice a2 m2 c2)) w := by
  rcases hfa with ⟨rfl, rfl, rfl⟩ | ⟨g, rfl, hle⟩
  · have e2 : a2 = none := HA.out
    have e3 : m2 = 0 := by rw [HM.out]; omega
    have e4 : c2 = 0 := by rw [HC.out]; omega
    have h2 : (Instr.slice 50 (.slice none 0 0) (some (.int .i64 (k : Int))) none none).run Try.prog w = .ok (.slice none 0 0) w := by
      rw [run_slice_l (P := Try.prog) w 50 none 0 0 (by kernel_rfl) .i64 (k : Int) (by omega) (by omega)]
      have hsz : (sizeOf (Try.prog.elem 50)).run Try.prog w = .ok 2 w := by kernel_rfl
      rw [hsz]
      simp [Result.andThen, sliced]
    have hs := (run_sliceAt_slice (P := Try.prog) (w := w) 50 (.slice none 0 0) (some (.int .i64 (k : Int))) none none (by kernel_rfl)).trans h2
    rw [e2, e3, e4]
    simp [execOp, ho, hx, hz, hs, Result.andThen]
  · exact slL_run ho hx hz hk (hidn (by rw [HA.out]; unfold lowA; simp)) HM HC

theorem bs1f_run {o : Oper} {a : Act} {w : World} {x : Operand} {s : ByteArray} (ho : o.op = Op.buildSlice 50 1 #[(0, x)]) (hx : a.eval x = .agg #[.string s, .slice none 0 0]) : (execOp a.eval o).run Try.prog w = .ok (.value (.slice (some ⟨w.heap.size, 0, none⟩) 1 1)) (w.alloc (.cells #[.string s, .slice none 0 0] 55)) := by
  have h : (Instr.buildSlice 50 1 #[(0, .agg #[.string s, .slice none 0 0])]).run Try.prog w = .ok (.slice (some ⟨w.heap.size, 0, none⟩) 1 1) (w.alloc (.cells #[.string s, .slice none 0 0] 55)) := by kernel_rfl
  simp [execOp, ho, hx, h, Result.andThen]

/-- One extent's cells onto no row. -/
theorem appC0 (W : World) (n0 : Nat) (hle : n0 ≤ W.heap.size) (b : Nat) (a0 a1 a2 a3 a4 : Value) (o0 : a0.oneCell' = true) (o1 : a1.oneCell' = true) (o2 : a2.oneCell' = true) (o3 : a3.oneCell' = true) (o4 : a4.oneCell' = true) (hb : W.heap[b]? = some (.cells #[a0, a1, a2, a3, a4] 57 (0, 0))) :
    ∃ g2 c2 W', (Builtin.append_ #[53, 53] 53 #[.slice none 0 0, .slice (some ⟨b, 0, none⟩) 1 1]).run Try.prog W = .ok (.slice (some ⟨g2, 0, none⟩) 1 c2) W' ∧ W'.ownsRow n0 57 5 (.slice (some ⟨g2, 0, none⟩) 1 c2) 1 [a0, a1, a2, a3, a4] ∧ W.grownBy W' none := by
  have h : (Try.prog.info? 57).map (fun i => (i.zero, i.size, i.bytes)) = some (some (.agg #[.slice none 0 0, .slice none 0 0, .slice none 0 0, .slice none 0 0, .bool false]), 5, 104) := by kernel_rfl
  obtain ⟨i0, hi, h1, h2, h3⟩ := info_parts h
  obtain ⟨g2, c2, W', hr, ho, hg, hp⟩ := appN (P := Try.prog) W 53 53 57 i0 _ 5 104 Try.underlying53 hi h1 h2 h3 rfl (by decide) (.slice none 0 0) 0 [] n0 ⟨by simp, .inl ⟨rfl, rfl⟩⟩ hle ⟨b, 0, none⟩ 1 1 (by omega) [a0, a1, a2, a3, a4] rfl (fun j u hj => by
    rw [add_none, Nat.zero_add, cell_of_row _ _ _ _ _ _ hb]
    simpa using hj) (fun u hu => by
    simp only [List.mem_cons, List.not_mem_nil, or_false] at hu
    rcases hu with rfl | rfl | rfl | rfl | rfl <;> assumption) (by unfold maxLen; omega) (by omega)
  exact ⟨g2, c2, W', by simpa using hr, by simpa using ho, hg⟩

/-- The same disk with one file more, in another row. -/
theorem RyOf.files3 {w w' : World} {y : Nat} {F F' : Nat → Prop} {fa : Option Addr} {fc : Nat} {R : List Yf} {room fuse : Int} (h : RyOf w y F fa fc R room fuse) (k : Nat) (hk : k ≤ R.length) (f' : Yf) (hnm : f'.name.size ≤ 24) (hne0 : f'.l ≠ []) (a' : Option Addr) (c' : Nat)
    (hy : w'.heap[y]? = some (.cells #[.int .i64 room, .slice a' (R.length + 1) c', .int .i64 fuse] 52 (0, 0))) (hfiles : w'.ownsRow 0 55 2 (.slice a' (R.length + 1) c') (R.length + 1) (cellsR (R.take k ++ f' :: R.drop k)))
    (hrow : w'.ownsRow 0 57 5 f'.row f'.l.length (cellsC f'.l))
    (him : ∀ c ∈ f'.l, (Im w' c.q0 c.x.rd ∧ Im w' c.q1 c.x.dur ∧ Im w' c.q2 c.x.syn ∧ Im w' c.q3 c.x.wri) ∧ c.x.ok ∧ F' c.q0.1 ∧ F' c.q1.1 ∧ F' c.q2.1 ∧ F' c.q3.1)
    (hb : ∀ b, F b → b ≠ y → w'.heap[b]? = w.heap[b]?) (hFF : ∀ b, F b → F' b) (hFa : ∀ x, a' = some x → F' x.block) (hFg : F' f'.g) (hnew : ¬ F f'.g) : RyOf w' y F' a' c' (R.take k ++ f' :: R.drop k) room fuse := by
  have hlen : (R.take k ++ f' :: R.drop k).length = R.length + 1 := by
    rw [List.length_append, List.length_take, List.length_cons, List.length_drop]; omega
  have hmem : ∀ f ∈ R.take k ++ f' :: R.drop k, f ∈ R ∨ f = f' := fun f hf => by
    rcases List.mem_append.1 hf with hf | hf
    · exact .inl (List.mem_of_mem_take hf)
    · rcases List.mem_cons.1 hf with hf | hf
      · exact .inr hf
      · exact .inl (List.mem_of_mem_drop hf)
  refine ⟨by rw [hlen]; exact hy, by rw [hlen]; exact hfiles, fun f hf => ?_, fun f hf c hc => ?_, fun f hf => ?_, ?_, hFF _ h.fy, hFa, fun f hf => ?_, fun f hf c hc => ?_⟩
  · rcases hmem f hf with hm | rfl
    · exact own_other (h.rows f hm) (fun g hg => by
        obtain rfl : f.g = g := by simpa [Yf.row, Value.ownBlock] using hg
        exact hb _ (h.fr f hm) (own_ne (h.rows f hm) (g := f.g) rfl h.disk (Ne.symm tyDF.2.1)))
    · exact hrow
  · rcases hmem f hf with hm | rfl
    · obtain ⟨a0, a1, a2, a3⟩ := h.ims f hm c hc
      obtain ⟨b0, b1, b2, b3⟩ := h.fi f hm c hc
      have nn : ∀ {q : Nat × Nat} {z : List Nat}, Im w q z → q.1 ≠ y := fun hq => own_ne hq rfl h.disk (Ne.symm tyDF.2.2.1)
      exact ⟨own_other a0 (fun g hg => by cases hg; exact hb _ b0 (nn a0)), own_other a1 (fun g hg => by cases hg; exact hb _ b1 (nn a1)), own_other a2 (fun g hg => by cases hg; exact hb _ b2 (nn a2)), own_other a3 (fun g hg => by cases hg; exact hb _ b3 (nn a3))⟩
    · exact (him c hc).1
  · rcases hmem f hf with hm | rfl
    · exact h.ok f hm
    · exact ⟨hnm, hne0, fun c hc => (him c hc).2.1⟩
  · have hp : (R.take k ++ f' :: R.drop k).Perm (f' :: R) := by
      have h1 : (R.take k ++ f' :: R.drop k).Perm (f' :: (R.take k ++ R.drop k)) := List.perm_middle
      rwa [List.take_append_drop] at h1
    rw [(hp.map Yf.g).nodup_iff, List.map_cons, List.nodup_cons]
    refine ⟨fun hin => ?_, h.apart⟩
    obtain ⟨f2, h2, e⟩ := List.mem_map.1 hin
    exact hnew (e ▸ h.fr f2 h2)
  · rcases hmem f hf with hm | rfl
    · exact hFF _ (h.fr f hm)
    · exact hFg
  · rcases hmem f hf with hm | rfl
    · obtain ⟨b0, b1, b2, b3⟩ := h.fi f hm c hc
      exact ⟨hFF _ b0, hFF _ b1, hFF _ b2, hFF _ b3⟩
    · exact (him c hc).2.2

def EMPC (A B : Nat) : List Value := [.slice none 0 0, .slice (some ⟨A, 0, none⟩) 128 128, .slice (some ⟨B, 0, none⟩) 128 128, .slice none 0 0, .bool false]

/-- What stands when the new file has its new, empty extent. -/
structure NewI (w5 : World) (y n0 : Nat) (R : List Yf) (room fuse : Int) (s : ByteArray) (k gB cB g2 c2 A B : Nat) (Wz : World) : Prop where
  os : Wz.os = w5.os
  tape : Wz.tape = w5.tape
  output : Wz.output = w5.output
  size : n0 ≤ Wz.heap.size
  kept : ∀ b, b < n0 → b ≠ y → Wz.heap[b]? = w5.heap[b]?
  disk : Wz.heap[y]? = some (.cells #[.int .i64 room, .slice (some ⟨gB, 0, none⟩) (R.length + 1) cB, .int .i64 fuse] 52 (0, 0))
  files : Wz.ownsRow n0 55 2 (.slice (some ⟨gB, 0, none⟩) (R.length + 1) cB) (R.length + 1) (cellsR (R.take k) ++ ([.string s, .slice (some ⟨g2, 0, none⟩) 1 c2] ++ cellsR (R.drop k)))
  row : Wz.ownsRow n0 57 5 (.slice (some ⟨g2, 0, none⟩) 1 c2) 1 (EMPC A B)
  iA : Im Wz (A, 128) zeroY128
  iB : Im Wz (B, 128) zeroY128
  nA : n0 ≤ A
  nB : n0 ≤ B

theorem own_base {w : World} {base e size n : Nat} {v : Value} {xs : List Value} (h : w.ownsRow base e size v n xs) : w.ownsRow 0 e size v n xs := by
  rcases h.2 with h2 | ⟨g', cap, cur, hv, hbase, r⟩
  · exact ⟨h.1, .inl h2⟩
  · exact ⟨h.1, .inr ⟨g', cap, cur, hv, Nat.zero_le _, r⟩⟩

set_option maxHeartbeats 1000000 in
theorem new_end2 (w5 : World) (y : Nat) (F : Nat → Prop) (fa : Option Addr) (fc : Nat) (R : List Yf) (room fuse : Int) (h5 : RyOf w5 y F fa fc R room fuse) (hL : ∀ b, F b → b < w5.heap.size) (k : Nat) (hk : k ≤ R.length) (s : ByteArray) (hs : s.size ≤ 24) (zs : List Nat) (ba boff cap : Nat) (hBF : BsF F w5 (some ⟨ba, boff, none⟩) 128 zs)
    (n0 : Nat) (hn0 : n0 = w5.heap.size) (gB cB g2 c2 A B : Nat) (Wz : World) (hI : NewI w5 y n0 R room fuse s k gB cB g2 c2 A B Wz) :
    ∃ (q1 : Nat × Nat) (W2 : World) (q2 : Nat × Nat) (W4 : World),
      (Builtin.append_ #[29, 29] 29 #[.slice (some ⟨Wz.heap.size, 0, none⟩) 0 0, .slice (some ⟨ba, boff, none⟩) 128 cap]).run Try.prog (Wz.alloc (.cells #[] 5)) = .ok (im q1) W2 ∧
      (Builtin.append_ #[29, 29] 29 #[.slice (some ⟨W2.heap.size, 0, none⟩) 0 0, .slice (some ⟨ba, boff, none⟩) 128 cap]).run Try.prog (W2.alloc (.cells #[] 5)) = .ok (im q2) W4 ∧
      Wz.cell? ⟨y, 1, none⟩ = some (.slice (some ⟨gB, 0, none⟩) (R.length + 1) cB) ∧ Wz.cell? ⟨gB, k * 2 + 1, none⟩ = some (.slice (some ⟨g2, 0, none⟩) 1 c2) ∧
      W4.cell? ⟨g2, 0, none⟩ = some (.slice none 0 0) ∧ W4.cell? ⟨g2, 3, none⟩ = some (.slice none 0 0) ∧ W4.cell? ⟨g2, 4, none⟩ = some (.bool false) ∧ (∃ cur, W4.heap[g2]? = some (.cells cur 57 (0, 0))) ∧
      ∃ F' c', RyOf (((W4.setCell ⟨g2, 0, none⟩ (im q1)).setCell ⟨g2, 3, none⟩ (im q2)).setCell ⟨g2, 4, none⟩ (.bool true)) y F' (some ⟨gB, 0, none⟩) cB (R.take k ++ ⟨s, g2, c2, [c']⟩ :: R.drop k) room fuse ∧ c'.x = zeroE.wrote zs ∧ Gr F F' w5 (((W4.setCell ⟨g2, 0, none⟩ (im q1)).setCell ⟨g2, 3, none⟩ (im q2)).setCell ⟨g2, 4, none⟩ (.bool true)) := by
  obtain ⟨hos, htp, hou, hsz, hkept, hdisk, hfiles, hrow, hMA, hMB, nA, nB⟩ := hI
  have hBz := hBF.1
  have hnF : ¬ F ba := hBF.2 _ rfl (by omega)
  have hba : ba < w5.heap.size := by
    have := block_lt_of_cell (hBz.2.2.2.2 _ rfl 0 (by omega))
    rw [add_none] at this
    exact this
  have hby : ba ≠ y := fun e => hnF (e ▸ h5.fy)
  have ly := hL y h5.fy
  have lgB := hfiles.lt gB rfl
  have lg2 := hrow.lt g2 rfl
  have hgg : g2 ≠ gB := own_ne2 hrow hfiles (g := g2) rfl rfl (Ne.symm tyDF.2.2.2.1)
  have hc1 : Wz.cell? ⟨y, 1, none⟩ = some (.slice (some ⟨gB, 0, none⟩) (R.length + 1) cB) := by rw [cell_of_row _ _ _ _ _ _ hdisk]; rfl
  have hlt : (cellsR (R.take k)).length = k * 2 := by rw [cellsR_length, List.length_take, Nat.min_eq_left hk]
  have hc2 : Wz.cell? ⟨gB, k * 2 + 1, none⟩ = some (.slice (some ⟨g2, 0, none⟩) 1 c2) := by
    have h1 := hfiles.cells (g := gB) rfl (k * 2 + 1) (.slice (some ⟨g2, 0, none⟩) 1 c2) (by
      rw [List.getElem?_append_right (by omega), hlt, Nat.add_sub_cancel_left]
      rfl)
    rw [add_none, Nat.zero_add] at h1
    exact h1
  have hW1 : Below Wz.heap.size Wz (Wz.alloc (.cells #[] 5)) := (Below.refl _ _).alloc (Nat.le_refl _) _
  have hsrc : ∀ W', Below Wz.heap.size Wz W' → ∀ j u, (vb zs)[j]? = some u → W'.cell? ((⟨ba, boff, none⟩ : Addr).add j) = some u := fun W' hb => src_of hBz ((hb.block ba (by omega)).trans (hkept ba (by omega) hby))
  obtain ⟨q1, W2, hr1', hi1, hq1, hqs1, hg1⟩ := cpy (Wz.alloc (.cells #[] 5)) Wz.heap.size (heap_alloc_new _ _) ⟨ba, boff, none⟩ cap zs hBz.1 (hsrc _ hW1)
  have hW2 : Below Wz.heap.size Wz W2 := hW1.grown hg1 hW1.size (fun k hk => by cases hk; exact Nat.le_refl _)
  have hW3 : Below Wz.heap.size Wz (W2.alloc (.cells #[] 5)) := hW2.alloc hW2.size _
  obtain ⟨q2, W4, hr2', hi2, hq2, hqs2, hg2'⟩ := cpy (W2.alloc (.cells #[] 5)) W2.heap.size (heap_alloc_new _ _) ⟨ba, boff, none⟩ cap zs hBz.1 (hsrc _ hW3)
  have hW4 : Below Wz.heap.size Wz W4 := hW3.grown hg2' hW3.size (fun k hk => by cases hk; exact hW2.size)
  have hi1' : Im W4 q1 zs := im_grown (im_grown hi1 (grown_alloc W2 _) (fun e => by cases e)) hg2' (fun e => by have := Option.some.inj e; omega)
  have hrow4 : W4.ownsRow 0 57 5 (.slice (some ⟨g2, 0, none⟩) 1 c2) 1 (EMPC A B) := own_other (own_base hrow) (fun b hb => by cases hb; exact hW4.block g2 lg2.2)
  obtain ⟨cur, hcur⟩ := own_ty hrow4 (g := g2) rfl
  have key : ∀ j v, (EMPC A B)[j]? = some v → W4.cell? ⟨g2, j, none⟩ = some v := fun j v hv => by
    have h1 := hrow4.cells (g := g2) rfl j v hv
    rw [add_none, Nat.zero_add] at h1
    exact h1
  obtain ⟨c', hc'⟩ : ∃ c' : Yc, c' = ⟨zeroE.wrote zs, q1, (A, 128), (B, 128), q2⟩ := ⟨_, rfl⟩
  have hp3 := own_putY (own_putY (own_putY hrow4 0 (im q1)) 3 (im q2)) 4 (.bool true)
  obtain ⟨WF, hWF⟩ : ∃ WF, WF = ((W4.setCell ⟨g2, 0, none⟩ (im q1)).setCell ⟨g2, 3, none⟩ (im q2)).setCell ⟨g2, 4, none⟩ (.bool true) := ⟨_, rfl⟩
  have hothF : ∀ b, b ≠ g2 → WF.heap[b]? = W4.heap[b]? := fun b hb => by
    rw [hWF, Below.heap_setCell _ ⟨g2, 4, none⟩ _ b hb, Below.heap_setCell _ ⟨g2, 3, none⟩ _ b hb, Below.heap_setCell _ ⟨g2, 0, none⟩ _ b hb]
  have hsF : WF.heap.size = W4.heap.size := by rw [hWF]; simp [World.setCell]
  have hosF : WF.os = W4.os ∧ WF.tape = W4.tape ∧ WF.output = W4.output := by rw [hWF]; exact ⟨rfl, rfl, rfl⟩
  refine ⟨q1, W2, q2, W4, hr1', hr2', hc1, hc2, key 0 _ rfl, key 3 _ rfl, key 4 _ rfl, ⟨cur, hcur⟩, ?_⟩
  rw [← hWF] at hp3 ⊢
  clear hWF
  have hp4 : WF.ownsRow 0 57 5 (.slice (some ⟨g2, 0, none⟩) 1 c2) 1 (cellsC [c']) := by
    rw [hc']
    exact hp3
  have hkI : ∀ (q : Nat × Nat) (z : List Nat), Im W4 q z → Im WF q z := fun q z hq => own_other hq (fun b hb => hothF b (Ne.symm (own_ne2 hrow4 hq (g := g2) rfl hb tyDF.2.2.2.2.2)))
  have hMA4 : Im W4 (A, 128) zeroY128 := own_other hMA (fun b hb => by cases hb; exact hW4.block A (own_lt hMA A rfl))
  have hMB4 : Im W4 (B, 128) zeroY128 := own_other hMB (fun b hb => by cases hb; exact hW4.block B (own_lt hMB B rfl))
  have hs4 := hW4.size
  have hyg2 : y ≠ g2 := by omega
  have hfF : WF.ownsRow 0 55 2 (.slice (some ⟨gB, 0, none⟩) (R.length + 1) cB) (R.length + 1) (cellsR (R.take k ++ ⟨s, g2, c2, [c']⟩ :: R.drop k)) := by
    rw [cellsR_append]
    exact own_other (own_base hfiles) (fun b hb => by cases hb; exact (hothF gB (Ne.symm hgg)).trans (hW4.block gB lgB.2))
  have hsA := own_lt hMA A rfl
  have hsB := own_lt hMB B rfl
  have hsq := hg2'.size
  rw [World.size_alloc] at hsq hq1 hq2
  have hs2 := hW2.size
  have hFin := h5.files3 (w' := WF) (F' := fun b => F b ∨ (n0 ≤ b ∧ b < WF.heap.size)) k hk ⟨s, g2, c2, [c']⟩ hs (by simp) (some ⟨gB, 0, none⟩) cB ((hothF y hyg2).trans ((hW4.block y (by omega)).trans hdisk)) hfF hp4
    (fun c hc => by
      obtain rfl := List.mem_singleton.1 hc
      rw [hc']
      refine ⟨⟨hkI _ _ hi1', hkI _ _ hMA4, hkI _ _ hMB4, hkI _ _ hi2⟩, ?_, .inr ⟨?_, ?_⟩, .inr ⟨nA, ?_⟩, .inr ⟨nB, ?_⟩, .inr ⟨?_, ?_⟩⟩
      · refine ⟨⟨by simp [zeroE, Ext.wrote], fun y hy => ?_⟩, ⟨by simp [zeroE, Ext.wrote], fun y hy => ?_⟩, hBz.1, hBz.2.2.1⟩
        · simp [zeroE, Ext.wrote] at hy; omega
        · simp [zeroE, Ext.wrote] at hy; omega
      · show n0 ≤ q1.1; omega
      · show q1.1 < _; rw [hsF]; omega
      · show A < _; rw [hsF]; omega
      · show B < _; rw [hsF]; omega
      · show n0 ≤ q2.1; omega
      · show q2.1 < _; rw [hsF]; exact hqs2)
    (fun b hb hne => by
      have lb := hL b hb
      exact (hothF b (by omega)).trans ((hW4.block b (by omega)).trans (hkept b (by omega) hne)))
    (fun b hb => .inl hb) (fun x hx => by cases hx; exact .inr ⟨lgB.1, by show gB < _; rw [hsF]; omega⟩) (.inr ⟨lg2.1, by show g2 < _; rw [hsF]; omega⟩) (fun hf => by have := hL _ hf; simp only at this; omega)
  refine ⟨_, c', hFin, by rw [hc'], ?_⟩
  refine ⟨⟨by rw [hosF.1, hW4.os, hos], by rw [hosF.2.1, hW4.tape, htp], by rw [hosF.2.2, hW4.output, hou], by omega, fun b hb hn => ?_⟩, fun b hb => ?_⟩
  · exact (hothF b (by omega)).trans ((hW4.block b (by omega)).trans (hkept b (by omega) (fun e => hn (e ▸ h5.fy))))
  · rcases hb with hb | hb
    · exact .inl hb
    · exact .inr ⟨by omega, hb.2⟩
end Go.Proofs.Ytocfbokgbpaneaa
