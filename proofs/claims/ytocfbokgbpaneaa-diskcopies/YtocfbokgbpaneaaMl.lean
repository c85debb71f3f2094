/- The document's disk: Write on a full disk. -/
import Derived.Test.YtocfbokgbpaneaaMk
namespace Go.Proofs.Ytocfbokgbpaneaa
open Go.RowKit Go.Maps
set_option linter.unusedVariables false

set_option maxRecDepth 100000 in
set_option maxHeartbeats 4000000 in
theorem writeY_full (w : World) (y : Nat) (F : Nat → Prop) (fa : Option Addr) (fc : Nat) (R : List Yf) (room fuse : Int) (h : RyOf w y F fa fc R room fuse) (hF : ∀ k, F k → k < w.heap.size) (s : ByteArray) (hs : nameB s.data.toList = true) (hR : R.length ≤ 1000000) (hr0 : 0 ≤ room) (hr1 : room ≤ 100000) (hsm : sumL R ≤ 100000) (hf0 : fuse ≠ 0) (hf1 : -1 ≤ fuse) (hf2 : fuse ≤ 9223372036854775807) (i : Nat) (ba cap : Nat) (boff : Nat) (zs : List Nat) (hB : BsF F w (some ⟨ba, boff, none⟩) 128 zs) (n : Nat) (HN : Hid (n = (extY R s).length)) (hin : i = n) (hfull : room - (sumL R : Int) ≤ 0) :
    Calls Try.prog 16 #[.pointer (some ⟨y, 0, none⟩), .string s, .int .i64 (i : Int), .slice (some ⟨ba, boff, none⟩) 128 cap] w (RyPost w y F (fun R2 => R2 = R) room (burnt fuse) 4) := by
  have HNm := hidn (isNameY_any w s (by have := nameB_size hs; unfold maxLen; omega))
  rw [hs] at HNm
  have HE := hidn (extentsY_any w y F fa fc R room fuse h hF s hR n HN)
  have HF := hidn hF
  have HBz := hidn hB
  have HYF := hidn h.fy
  have HSt := hidn (fun (wx : World) (hx : RyOf wx y F fa fc R room fuse) => stops_no wx y F fa fc R room fuse hx hf0 hf1 hf2)
  have HE2 := hidn (fun (wx : World) (hx : RyOf wx y F fa fc R room (burnt fuse)) (hl : ∀ k, F k → k < wx.heap.size) => extentsY_any wx y F fa fc R room (burnt fuse) hx hl s hR n HN)
  have HPl := hidn (fun (wx : World) (hx : RyOf wx y F fa fc R room (burnt fuse)) (hl : ∀ k, F k → k < wx.heap.size) => place_any wx y F fa fc R room (burnt fuse) hx hl s hR)
  have HFr := hidn (fun (wx : World) (hx : RyOf wx y F fa fc R room (burnt fuse)) (hl : ∀ k, F k → k < wx.heap.size) => freeY_any wx y F fa fc R room (burnt fuse) hx hl hR hr0 hr1 hsm)
  have H := hidn h
  have e2 : decide ((i : Int) < 0) = false := by simp
  have e3 : decide ((n : Int) < (i : Int)) = false := by simp; omega
  clear h hF hs hB hf0 hf1 hf2
  have e4 : ((i : Int) == (n : Int)) = true := by rw [hin]; simp
  have e3n : decide (n < i) = false := by simp; omega
  have e3m : ¬ ((n : Int) < (i : Int)) := by omega
  have e4n : decide (i = n) = true := by simpa using hin
  obtain ⟨fr, hfr⟩ : ∃ fr, fr = room - (sumL R : Int) := ⟨_, rfl⟩
  rw [← hfr] at HFr
  have e5 : decide (fr ≤ 0) = true := by rw [hfr]; simpa using hfull
  clear hfull hfr hR hin
  go_enter Try.func16, Try.ntmps16
  go_wp2_with fail
  refine HNm.out.mono ?_
  clear HNm
  rintro e w1 ⟨rfl, hw1⟩
  rw [hw1]
  clear hw1
  go_wp2_with fail
  refine HE.out.mono ?_
  clear HE
  rintro e w2 ⟨rfl, hb2⟩
  have HG2 := hidn (Gr.of (Keeps.of_below (F := F) hb2))
  have HL2 : Hid (∀ k, F k → k < w2.heap.size) := hidn (fun k hk => Nat.lt_of_lt_of_le (HF.out k hk) hb2.size)
  have HR2 := hidn (H.out.below HF.out hb2)
  clear hb2 H HF
  go_wp2_with fail
  refine (HSt.out _ HR2.out).mono ?_
  clear HSt HR2
  rintro e w3 ⟨rfl, hR3, hG3, hs3⟩
  have HR3 := hidn hR3
  have HG3 := hidn (HG2.out.trans hG3)
  have HL3 : Hid (∀ k, F k → k < w3.heap.size) := hidn (fun k hk => by rw [hs3]; exact HL2.out k hk)
  clear hR3 hG3 hs3 HG2 HL2
  go_wp2_with fail
  refine (HE2.out _ HR3.out HL3.out).mono ?_
  clear HE2
  rintro e w4 ⟨rfl, hb4⟩
  have HR4 := hidn (HR3.out.below HL3.out hb4)
  have HG4 := hidn (HG3.out.trans (Gr.of (Keeps.of_below (F := F) hb4)))
  have HL4 : Hid (∀ k, F k → k < w4.heap.size) := hidn (fun k hk => Nat.lt_of_lt_of_le (HL3.out k hk) hb4.size)
  clear hb4 HR3 HG3 HL3
  go_wp2_with fail
  refine (HFr.out _ HR4.out HL4.out).mono ?_
  clear HFr
  rintro e w45 ⟨rfl, hb45⟩
  have HR4 := hidn (HR4.out.below HL4.out hb45)
  have HG4 := hidn (HG4.out.trans (Gr.of (Keeps.of_below (F := F) hb45)))
  have HL4 : Hid (∀ k, F k → k < w45.heap.size) := hidn (fun k hk => Nat.lt_of_lt_of_le (HL4.out k hk) hb45.size)
  clear hb45
  go_wp2
  go_ret
  exact ⟨rfl, F, fa, fc, R, HR4.out, rfl, HG4.out⟩
end Go.Proofs.Ytocfbokgbpaneaa

namespace Go.Proofs.Ytocfbokgbpaneaa
open Go.RowKit Go.Maps
set_option linter.unusedVariables false

theorem mkm_run {o : Oper} {a : Act} {w : World} (ho : o.op = Op.makeSlice 29 (.const (.int .i64 128)) (.const (.int .i64 128))) : (execOp a.eval o).run Try.prog w = .ok (.value (.slice (some ⟨w.heap.size, 0, none⟩) 128 128)) (w.alloc (.cells (Array.replicate 128 (.int .u8 0)) 5)) := by
  have h : (Instr.makeSlice 29 (.int .i64 128) (.int .i64 128)).run Try.prog w = .ok (.slice (some ⟨w.heap.size, 0, none⟩) 128 128) (w.alloc (.cells (Array.replicate 128 (.int .u8 0)) 5)) := by kernel_rfl
  simp [execOp, ho, Act.eval, h, Result.andThen]

def zeroY128 : List Nat := List.replicate 128 0

theorem vb_zero : vb zeroY128 = List.replicate 128 (.int .u8 0) := by
  unfold vb zeroY128
  rw [List.map_replicate]
  rfl

theorem im_make (w : World) : Im (w.alloc (.cells (Array.replicate 128 (.int .u8 0)) 5)) (w.heap.size, 128) zeroY128 := by
  refine ⟨by rw [length_vb]; rfl, .inr ⟨w.heap.size, 128, _, rfl, Nat.zero_le _, heap_alloc_new _ _, Nat.le_refl _, by unfold maxLen; omega, by simp, ?_⟩⟩
  rw [vb_zero]
  simp

theorem bs1_run {o : Oper} {a : Act} {w : World} {x : Operand} {m1 m2 : Nat} (ho : o.op = Op.buildSlice 53 1 #[(0, x)]) (hx : a.eval x = .agg #[.slice none 0 0, .slice (some ⟨m1, 0, none⟩) 128 128, .slice (some ⟨m2, 0, none⟩) 128 128, .slice none 0 0, .bool false]) : (execOp a.eval o).run Try.prog w = .ok (.value (.slice (some ⟨w.heap.size, 0, none⟩) 1 1)) (w.alloc (.cells #[.slice none 0 0, .slice (some ⟨m1, 0, none⟩) 128 128, .slice (some ⟨m2, 0, none⟩) 128 128, .slice none 0 0, .bool false] 57)) := by
  have h : (Instr.buildSlice 53 1 #[(0, .agg #[.slice none 0 0, .slice (some ⟨m1, 0, none⟩) 128 128, .slice (some ⟨m2, 0, none⟩) 128 128, .slice none 0 0, .bool false])]).run Try.prog w = .ok (.slice (some ⟨w.heap.size, 0, none⟩) 1 1) (w.alloc (.cells #[.slice none 0 0, .slice (some ⟨m1, 0, none⟩) 128 128, .slice (some ⟨m2, 0, none⟩) 128 128, .slice none 0 0, .bool false] 57)) := by kernel_rfl
  simp [execOp, ho, hx, h, Result.andThen]

theorem Keeps.grown0 {F : Nat → Prop} {w w1 w2 : World} (h : Keeps F w w1) (hg : w1.grownBy w2 none) : Keeps F w w2 :=
  ⟨hg.os.trans h.os, hg.tape.trans h.tape, hg.output.trans h.output, Nat.le_trans h.size hg.size, fun i hi hn => (hg.block i (Nat.lt_of_lt_of_le hi h.size) (by simp)).trans (h.block i hi hn)⟩

theorem Keeps.grown1 {g : Nat} {w w1 w2 : World} (h : Keeps (fun b => b = g) w w1) (hg : w1.grownBy w2 (some g)) : Keeps (fun b => b = g) w w2 :=
  ⟨hg.os.trans h.os, hg.tape.trans h.tape, hg.output.trans h.output, Nat.le_trans h.size hg.size, fun i hi hn => (hg.block i (Nat.lt_of_lt_of_le hi h.size) (fun e => hn (Option.some.inj e))).trans (h.block i hi hn)⟩

theorem Keeps.or {g g' : Nat} {w w1 : World} (h : Keeps (fun b => b = g) w w1) : Keeps (fun b => b = g ∨ b = g') w w1 :=
  ⟨h.os, h.tape, h.output, h.size, fun i hi hn => h.block i hi (fun e => hn (.inl e))⟩

theorem Keeps.cellK {F : Nat → Prop} {w w1 : World} (h : Keeps F w w1) {p : Addr} (hp : p.block < w.heap.size) (hn : ¬ F p.block) : w1.cell? p = w.cell? p := World.cell?_of_block (h.block p.block hp hn)

/-- One extent's cells onto a row. -/
theorem appC (W : World) (fg n c : Nat) (xs : List Value) (hown : W.ownsRow 0 57 5 (.slice (some ⟨fg, 0, none⟩) n c) n xs) (b : Nat) (a0 a1 a2 a3 a4 : Value) (o0 : a0.oneCell' = true) (o1 : a1.oneCell' = true) (o2 : a2.oneCell' = true) (o3 : a3.oneCell' = true) (o4 : a4.oneCell' = true) (hb : W.heap[b]? = some (.cells #[a0, a1, a2, a3, a4] 57 (0, 0))) (h63 : n + 1 ≤ maxLen) (hby : (n + 1) * 104 ≤ 140737488355328) :
    ∃ g2 c2 W', (Builtin.append_ #[53, 53] 53 #[.slice (some ⟨fg, 0, none⟩) n c, .slice (some ⟨b, 0, none⟩) 1 1]).run Try.prog W = .ok (.slice (some ⟨g2, 0, none⟩) (n + 1) c2) W' ∧ W'.ownsRow 0 57 5 (.slice (some ⟨g2, 0, none⟩) (n + 1) c2) (n + 1) (xs ++ [a0, a1, a2, a3, a4]) ∧ W.grownBy W' (some fg) ∧ (fg = g2 ∨ W.heap.size ≤ g2) := by
  have h : (Try.prog.info? 57).map (fun i => (i.zero, i.size, i.bytes)) = some (some (.agg #[.slice none 0 0, .slice none 0 0, .slice none 0 0, .slice none 0 0, .bool false]), 5, 104) := by kernel_rfl
  obtain ⟨i0, hi, h1, h2, h3⟩ := info_parts h
  obtain ⟨g2, c2, W', hr, ho, hg, hp⟩ := appN (P := Try.prog) W 53 53 57 i0 _ 5 104 Try.underlying53 hi h1 h2 h3 rfl (by decide) (.slice (some ⟨fg, 0, none⟩) n c) n xs 0 hown (Nat.zero_le _) ⟨b, 0, none⟩ 1 1 (by omega) [a0, a1, a2, a3, a4] rfl (fun j u hj => by
    rw [add_none, Nat.zero_add, cell_of_row _ _ _ _ _ _ hb]
    simpa using hj) (fun u hu => by
    simp only [List.mem_cons, List.not_mem_nil, or_false] at hu
    rcases hu with rfl | rfl | rfl | rfl | rfl <;> assumption) h63 hby
  exact ⟨g2, c2, W', hr, ho, hg, hp.imp (fun e => by simpa [Value.ownBlock] using e) id⟩

theorem cellsC_app (l : List Yc) (c : Yc) : cellsC (l ++ [c]) = cellsC l ++ c.cells := by
  simp [cellsC]

/-- A file is another one. -/
theorem RyOf.turnF {w w' : World} {y : Nat} {F F' : Nat → Prop} {fa : Option Addr} {fc : Nat} {R : List Yf} {room fuse : Int} (h : RyOf w y F fa fc R room fuse) {k : Nat} {f : Yf} (hk : R[k]? = some f) (f' : Yf) (gf : Nat) (hfa : fa = some ⟨gf, 0, none⟩)
    (hfiles : w'.ownsRow 0 55 2 (.slice fa R.length fc) R.length (cellsR (R.set k f')))
    (hrow : w'.ownsRow 0 57 5 f'.row f'.l.length (cellsC f'.l)) (hb : ∀ b, F b → b ≠ f.g → b ≠ gf → w'.heap[b]? = w.heap[b]?)
    (him : ∀ c ∈ f'.l, c ∈ f.l ∨ (Im w' c.q0 c.x.rd ∧ Im w' c.q1 c.x.dur ∧ Im w' c.q2 c.x.syn ∧ Im w' c.q3 c.x.wri) ∧ c.x.ok ∧ F' c.q0.1 ∧ F' c.q1.1 ∧ F' c.q2.1 ∧ F' c.q3.1) (hnm : f'.name = f.name) (hne0 : f'.l ≠ []) (hFF : ∀ b, F b → F' b) (hFg : F' f'.g) (hnew : f.g = f'.g ∨ ¬ F f'.g) :
    RyOf w' y F' fa fc (R.set k f') room fuse := by
  have hm := List.mem_of_getElem? hk
  have hrf := h.rows f hm
  have hgf := h.files
  have hne : ∀ {base e size n : Nat} {v : Value} {xs : List Value} (ho : w.ownsRow base e size v n xs) (g : Nat), v.ownBlock = some g → (57 : Nat) ≠ e → (55 : Nat) ≠ e → g ≠ f.g ∧ g ≠ gf := fun ho g hg he he2 => ⟨Ne.symm (own_ne2 hrf ho (g := f.g) rfl hg he), Ne.symm (own_ne2 hgf ho (g := gf) (by rw [hfa]; rfl) hg he2)⟩
  have hold : ∀ f2 ∈ R, ∀ c ∈ f2.l, Im w' c.q0 c.x.rd ∧ Im w' c.q1 c.x.dur ∧ Im w' c.q2 c.x.syn ∧ Im w' c.q3 c.x.wri := fun f2 h2 c hc => by
    obtain ⟨a0, a1, a2, a3⟩ := h.ims f2 h2 c hc
    obtain ⟨b0, b1, b2, b3⟩ := h.fi f2 h2 c hc
    have nn : ∀ {q : Nat × Nat} {z : List Nat}, Im w q z → q.1 ≠ f.g ∧ q.1 ≠ gf := fun hq => hne hq _ rfl tyDF.2.2.2.2.2 tyDF.2.2.2.2.1
    exact ⟨own_other a0 (fun g hg => by cases hg; exact hb _ b0 (nn a0).1 (nn a0).2), own_other a1 (fun g hg => by cases hg; exact hb _ b1 (nn a1).1 (nn a1).2), own_other a2 (fun g hg => by cases hg; exact hb _ b2 (nn a2).1 (nn a2).2), own_other a3 (fun g hg => by cases hg; exact hb _ b3 (nn a3).1 (nn a3).2)⟩
  have hap : ∀ j a, j ≠ k → R[j]? = some a → a.g ≠ f'.g := fun j a hj ha e => by
    rcases hnew with h1 | h1
    · exact nodup_ne h.apart ha hk hj (e.trans h1.symm)
    · exact h1 (e ▸ h.fr a (List.mem_of_getElem? ha))
  refine ⟨?_, ?_, ?_, ?_, ?_, ?_, hFF _ h.fy, fun x hx => hFF _ (h.ff x hx), ?_, ?_⟩
  · rw [List.length_set]
    have hy : y ≠ f.g := Ne.symm (own_ne hrf (g := f.g) rfl h.disk (Ne.symm tyDF.2.1))
    have hy2 : y ≠ gf := Ne.symm (own_ne hgf (g := gf) (by rw [hfa]; rfl) h.disk (Ne.symm tyDF.1))
    exact (hb y h.fy hy hy2).trans h.disk
  · rw [List.length_set]
    exact hfiles
  · intro f2 h2
    rcases mem_setY h2 with ⟨j, hj, h3⟩ | rfl
    · have h3m := List.mem_of_getElem? h3
      exact own_other (h.rows f2 h3m) (fun g hg => by
        obtain rfl : f2.g = g := by simpa [Yf.row, Value.ownBlock] using hg
        exact hb _ (h.fr f2 h3m) (nodup_ne h.apart h3 hk hj) (Ne.symm (own_ne2 hgf (h.rows f2 h3m) (g := gf) (by rw [hfa]; rfl) rfl tyDF.2.2.2.1)))
    · exact hrow
  · intro f2 h2 c hc
    rcases mem_setY h2 with ⟨j, hj, h3⟩ | rfl
    · exact hold f2 (List.mem_of_getElem? h3) c hc
    · rcases him c hc with hc | hc
      · exact hold f hm c hc
      · exact hc.1
  · intro f2 h2
    rcases mem_setY h2 with ⟨j, hj, h3⟩ | rfl
    · exact h.ok f2 (List.mem_of_getElem? h3)
    · refine ⟨by rw [hnm]; exact (h.ok f hm).1, hne0, fun x hx => ?_⟩
      rcases him x hx with hx | hx
      · exact (h.ok f hm).2.2 x hx
      · exact hx.2.1
  · rw [List.Nodup, List.pairwise_iff_getElem]
    intro i j hi hj hij e
    rw [List.length_map, List.length_set] at hi hj
    simp only [List.getElem_map, List.getElem_set] at e
    by_cases h1 : k = i
    · rw [if_pos h1, if_neg (by omega)] at e
      exact hap j _ (by omega) (List.getElem?_eq_getElem hj) e.symm
    · rw [if_neg h1] at e
      by_cases h2 : k = j
      · rw [if_pos h2] at e
        exact hap i _ (by omega) (List.getElem?_eq_getElem hi) e
      · rw [if_neg h2] at e
        exact nodup_ne h.apart (List.getElem?_eq_getElem hi) (List.getElem?_eq_getElem hj) (by omega) e
  · intro f2 h2
    rcases mem_setY h2 with ⟨j, hj, h3⟩ | rfl
    · exact hFF _ (h.fr f2 (List.mem_of_getElem? h3))
    · exact hFg
  · intro f2 h2 c hc
    rcases mem_setY h2 with ⟨j, hj, h3⟩ | rfl
    · obtain ⟨b0, b1, b2, b3⟩ := h.fi f2 (List.mem_of_getElem? h3) c hc
      exact ⟨hFF _ b0, hFF _ b1, hFF _ b2, hFF _ b3⟩
    · rcases him c hc with hc | hc
      · obtain ⟨b0, b1, b2, b3⟩ := h.fi f hm c hc
        exact ⟨hFF _ b0, hFF _ b1, hFF _ b2, hFF _ b3⟩
      · exact hc.2.2
end Go.Proofs.Ytocfbokgbpaneaa
