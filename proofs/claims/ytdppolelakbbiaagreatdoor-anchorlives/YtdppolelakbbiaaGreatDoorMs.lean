/- The document's disk: Write on a full disk. -/
import Derived.Test.YtdppolelakbbiaaGreatDoorMr
namespace Go.Proofs.YtdppolelakbbiaaGreatDoor
open Go.RowKit Go.Maps
set_option linter.unusedVariables false
set_option maxRecDepth 100000 in
set_option maxHeartbeats 4000000 in
theorem writeY_full (w : World) (y : Nat) (F : Nat → Prop) (fa : Option Addr) (fc : Nat) (R : List Yf) (room fuse : Int) (h : RyOf w y F fa fc R room fuse) (hF : ∀ k, F k → k < w.heap.size) (s : ByteArray) (hs : nameB s.data.toList = true) (hR : R.length ≤ 1000000) (hr0 : 0 ≤ room) (hr1 : room ≤ 100000) (hsm : sumL R ≤ 100000) (hf0 : fuse ≠ 0) (hf1 : -1 ≤ fuse) (hf2 : fuse ≤ 9223372036854775807) (i : Nat) (ba cap : Nat) (boff : Nat) (zs : List Nat) (hB : BsF F w (some ⟨ba, boff, none⟩) 128 zs) (n : Nat) (HN : Hid (n = (extY R s).length)) (hin : i = n) (hfull : room - (sumL R : Int) ≤ 0) :
  Calls Tryz.prog 50 #[.pointer (some ⟨y, 0, none⟩), .string s, .int .i64 (i : Int), .slice (some ⟨ba, boff, none⟩) 128 cap] w (RyPost w y F (fun R2 => R2 = R) room (burnt fuse) 4) := by
 have HNm := hidn (isNameY_any w s (by have := nameB_size hs; unfold maxLen; omega))
 rw [hs] at HNm
 have HE := hidn (extentsY_any w y F fa fc R room fuse h hF s hR n HN)
 have HF := hidn hF
 have HBz := hidn hB
 have HYF := hidn h.fy
 have HSt := hidn (fun (wx : World) (hx : RyOf wx y F fa fc R room fuse) => stops_no wx y F fa fc R room fuse hx hf0 hf1 hf2)
 have HE2 := hidn (fun (wx : World) (hx : RyOf wx y F fa fc R room (burnt fuse)) (hl : ∀ k, F k → k < wx.heap.size) => extentsY_any wx y F fa fc R room (burnt fuse) hx hl s hR n HN)
 have HPl := hidn (fun (wx : World) (hx : RyOf wx y F fa fc R room (burnt fuse)) (hl : ∀ k, F k → k < wx.heap.size) => place_any wx y F fa fc R room (burnt fuse) hx hl s hR)
 have HFr := hidn (fun (wx : World) (hx : RyOf wx y F fa fc R room (burnt fuse)) (hl : ∀ k, F k → k < wx.heap.size) => freeY_any wx y F fa fc R room (burnt fuse) hx hl hR hr0 hr1 hsm)
 have H := hidn h
 have e2 : decide ((i : Int) < 0) = false := by simp
 have e3 : decide ((n : Int) < (i : Int)) = false := by simp; omega
 clear h hF hs hB hf0 hf1 hf2
 have e4 : ((i : Int) == (n : Int)) = true := by rw [hin]; simp
 have e3n : decide (n < i) = false := by simp; omega
 have e3m : ¬ ((n : Int) < (i : Int)) := by omega
 have e4n : decide (i = n) = true := by simpa using hin
 obtain ⟨fr, hfr⟩ : ∃ fr, fr = room - (sumL R : Int) := ⟨_, rfl⟩
 rw [← hfr] at HFr
 have e5 : decide (fr ≤ 0) = true := by rw [hfr]; simpa using hfull
 clear hfull hfr hR hin
 go_enter Tryz.func50, Tryz.ntmps50
 go_wp2_with fail
 refine HNm.out.mono ?_
 clear HNm
 rintro e w1 ⟨rfl, hw1⟩
 rw [hw1]
 clear hw1
 go_wp2_with fail
 refine HE.out.mono ?_
 clear HE
 rintro e w2 ⟨rfl, hb2⟩
 have HG2 := hidn (Gr.of (Keeps.of_below (F := F) hb2))
 have HL2 : Hid (∀ k, F k → k < w2.heap.size) := hidn (fun k hk => lQ2 (HF.out k hk) hb2.size)
 have HR2 := hidn (H.out.below HF.out hb2)
 clear hb2 H HF
 go_wp2_with fail
 refine (HSt.out _ HR2.out).mono ?_
 clear HSt HR2
 rintro e w3 ⟨rfl, hR3, hG3, hs3⟩
 have HR3 := hidn hR3
 have HG3 := hidn (HG2.out.trans hG3)
 have HL3 : Hid (∀ k, F k → k < w3.heap.size) := hidn (fun k hk => by rw [hs3]; exact HL2.out k hk)
 clear hR3 hG3 hs3 HG2 HL2
 go_wp2_with fail
 refine (HE2.out _ HR3.out HL3.out).mono ?_
 clear HE2
 rintro e w4 ⟨rfl, hb4⟩
 have HR4 := hidn (HR3.out.below HL3.out hb4)
 have HG4 := hidn (HG3.out.trans (Gr.of (Keeps.of_below (F := F) hb4)))
 have HL4 : Hid (∀ k, F k → k < w4.heap.size) := hidn (fun k hk => lQ2 (HL3.out k hk) hb4.size)
 clear hb4 HR3 HG3 HL3
 go_wp2_with fail
 refine (HFr.out _ HR4.out HL4.out).mono ?_
 clear HFr
 rintro e w45 ⟨rfl, hb45⟩
 have HR4 := hidn (HR4.out.below HL4.out hb45)
 have HG4 := hidn (HG4.out.trans (Gr.of (Keeps.of_below (F := F) hb45)))
 have HL4 : Hid (∀ k, F k → k < w45.heap.size) := hidn (fun k hk => lQ2 (HL4.out k hk) hb45.size)
 clear hb45
 go_wp2
 go_ret
 exact ⟨rfl, F, fa, fc, R, HR4.out, rfl, HG4.out⟩
end Go.Proofs.YtdppolelakbbiaaGreatDoor

namespace Go.Proofs.YtdppolelakbbiaaGreatDoor
open Go.RowKit Go.Maps
set_option linter.unusedVariables false
theorem mkm_run {o : Oper} {a : Act} {w : World} (ho : o.op = Op.makeSlice 28 (.const (.int .i64 128)) (.const (.int .i64 128))) : (execOp a.eval o).run Tryz.prog w = .ok (.value (.slice (some ⟨w.heap.size, 0, none⟩) 128 128)) (w.alloc (.cells (Array.replicate 128 (.int .u8 0)) 5)) := by
 have h : (Instr.makeSlice 28 (.int .i64 128) (.int .i64 128)).run Tryz.prog w = .ok (.slice (some ⟨w.heap.size, 0, none⟩) 128 128) (w.alloc (.cells (Array.replicate 128 (.int .u8 0)) 5)) := by kernel_rfl
 simp [execOp, ho, Act.eval, h, Result.andThen]
def zeroY128 : List Nat := List.replicate 128 0
theorem vb_zero : vb zeroY128 = List.replicate 128 (.int .u8 0) := by
 unfold vb zeroY128
 rw [List.map_replicate]
 rfl
theorem im_make (w : World) : Im (w.alloc (.cells (Array.replicate 128 (.int .u8 0)) 5)) (w.heap.size, 128) zeroY128 := by
 refine ⟨by rw [length_vb]; rfl, .inr ⟨w.heap.size, 128, _, rfl, Nat.zero_le _, heap_alloc_new _ _, Nat.le_refl _, by unfold maxLen; omega, by simp, ?_⟩⟩
 rw [vb_zero]
 simp
theorem bs1_run {o : Oper} {a : Act} {w : World} {x : Operand} {m1 m2 : Nat} (ho : o.op = Op.buildSlice 141 1 #[(0, x)]) (hx : a.eval x = .agg #[.slice none 0 0, .slice (some ⟨m1, 0, none⟩) 128 128, .slice (some ⟨m2, 0, none⟩) 128 128, .slice none 0 0, .bool false]) : (execOp a.eval o).run Tryz.prog w = .ok (.value (.slice (some ⟨w.heap.size, 0, none⟩) 1 1)) (w.alloc (.cells #[.slice none 0 0, .slice (some ⟨m1, 0, none⟩) 128 128, .slice (some ⟨m2, 0, none⟩) 128 128, .slice none 0 0, .bool false] 140)) := by
 have h : (Instr.buildSlice 141 1 #[(0, .agg #[.slice none 0 0, .slice (some ⟨m1, 0, none⟩) 128 128, .slice (some ⟨m2, 0, none⟩) 128 128, .slice none 0 0, .bool false])]).run Tryz.prog w = .ok (.slice (some ⟨w.heap.size, 0, none⟩) 1 1) (w.alloc (.cells #[.slice none 0 0, .slice (some ⟨m1, 0, none⟩) 128 128, .slice (some ⟨m2, 0, none⟩) 128 128, .slice none 0 0, .bool false] 140)) := by kernel_rfl
 simp [execOp, ho, hx, h, Result.andThen]
theorem Keeps.grown0 {F : Nat → Prop} {w w1 w2 : World} (h : Keeps F w w1) (hg : w1.grownBy w2 none) : Keeps F w w2 :=
 ⟨hg.os.trans h.os, hg.tape.trans h.tape, hg.output.trans h.output, lQ1 h.size hg.size, fun i hi hn => (hg.block i (lQ2 hi h.size) (by simp)).trans (h.block i hi hn)⟩
theorem Keeps.grown1 {g : Nat} {w w1 w2 : World} (h : Keeps (fun b => b = g) w w1) (hg : w1.grownBy w2 (some g)) : Keeps (fun b => b = g) w w2 :=
 ⟨hg.os.trans h.os, hg.tape.trans h.tape, hg.output.trans h.output, lQ1 h.size hg.size, fun i hi hn => (hg.block i (lQ2 hi h.size) (fun e => hn (lQ5 e))).trans (h.block i hi hn)⟩
theorem Keeps.or {g g' : Nat} {w w1 : World} (h : Keeps (fun b => b = g) w w1) : Keeps (fun b => b = g ∨ b = g') w w1 :=
 ⟨h.os, h.tape, h.output, h.size, fun i hi hn => h.block i hi (fun e => hn (.inl e))⟩
theorem Keeps.cellK {F : Nat → Prop} {w w1 : World} (h : Keeps F w w1) {p : Addr} (hp : p.block < w.heap.size) (hn : ¬ F p.block) : w1.cell? p = w.cell? p := World.cell?_of_block (h.block p.block hp hn)
theorem appC (W : World) (fg n c : Nat) (xs : List Value) (hown : W.ownsRow 0 140 5 (.slice (some ⟨fg, 0, none⟩) n c) n xs) (b : Nat) (a0 a1 a2 a3 a4 : Value) (o0 : a0.oneCell' = true) (o1 : a1.oneCell' = true) (o2 : a2.oneCell' = true) (o3 : a3.oneCell' = true) (o4 : a4.oneCell' = true) (hb : W.heap[b]? = some (.cells #[a0, a1, a2, a3, a4] 140 (0, 0))) (h63 : n + 1 ≤ maxLen) (hby : (n + 1) * 104 ≤ 140737488355328) :
  ∃ g2 c2 W', (Builtin.append_ #[141, 141] 141 #[.slice (some ⟨fg, 0, none⟩) n c, .slice (some ⟨b, 0, none⟩) 1 1]).run Tryz.prog W = .ok (.slice (some ⟨g2, 0, none⟩) (n + 1) c2) W' ∧ W'.ownsRow 0 140 5 (.slice (some ⟨g2, 0, none⟩) (n + 1) c2) (n + 1) (xs ++ [a0, a1, a2, a3, a4]) ∧ W.grownBy W' (some fg) ∧ (fg = g2 ∨ W.heap.size ≤ g2) := by
 have h : (Tryz.prog.info? 140).map (fun i => (i.zero, i.size, i.bytes)) = some (some (.agg #[.slice none 0 0, .slice none 0 0, .slice none 0 0, .slice none 0 0, .bool false]), 5, 104) := by kernel_rfl
 obtain ⟨i0, hi, h1, h2, h3⟩ := info_parts h
 obtain ⟨g2, c2, W', hr, ho, hg, hp⟩ := appN (P := Tryz.prog) W 141 141 140 i0 _ 5 104 Tryz.underlying141 hi h1 h2 h3 rfl (by decide) (.slice (some ⟨fg, 0, none⟩) n c) n xs 0 hown (Nat.zero_le _) ⟨b, 0, none⟩ 1 1 (by omega) [a0, a1, a2, a3, a4] rfl (fun j u hj => by
  rw [add_none, Nat.zero_add, cell_of_row _ _ _ _ _ _ hb]
  simpa using hj) (fun u hu => by
  simp only [List.mem_cons, List.not_mem_nil, or_false] at hu
  rcases hu with rfl | rfl | rfl | rfl | rfl <;> assumption) h63 hby
 exact ⟨g2, c2, W', hr, ho, hg, hp.imp (fun e => by simpa [Value.ownBlock] using e) id⟩
theorem cellsC_app (l : List Yc) (c : Yc) : cellsC (l ++ [c]) = cellsC l ++ c.cells := by
 simp [cellsC]
theorem RyOf.turnF {w w' : World} {y : Nat} {F F' : Nat → Prop} {fa : Option Addr} {fc : Nat} {R : List Yf} {room fuse : Int} (h : RyOf w y F fa fc R room fuse) {k : Nat} {f : Yf} (hk : R[k]? = some f) (f' : Yf) (gf : Nat) (hfa : fa = some ⟨gf, 0, none⟩)
  (hfiles : w'.ownsRow 0 143 2 (.slice fa R.length fc) R.length (cellsR (R.set k f')))
  (hrow : w'.ownsRow 0 140 5 f'.row f'.l.length (cellsC f'.l)) (hb : ∀ b, F b → b ≠ f.g → b ≠ gf → w'.heap[b]? = w.heap[b]?)
  (him : ∀ c ∈ f'.l, c ∈ f.l ∨ (Im w' c.q0 c.x.rd ∧ Im w' c.q1 c.x.dur ∧ Im w' c.q2 c.x.syn ∧ Im w' c.q3 c.x.wri) ∧ c.x.ok ∧ F' c.q0.1 ∧ F' c.q1.1 ∧ F' c.q2.1 ∧ F' c.q3.1) (hnm : f'.name = f.name) (hne0 : f'.l ≠ []) (hFF : ∀ b, F b → F' b) (hFg : F' f'.g) (hnew : f.g = f'.g ∨ ¬ F f'.g) :
  RyOf w' y F' fa fc (R.set k f') room fuse := by
 have hm := lQ7 hk
 have hrf := h.rows f hm
 have hgf := h.files
 have hne : ∀ {base e size n : Nat} {v : Value} {xs : List Value} (ho : w.ownsRow base e size v n xs) (g : Nat), v.ownBlock = some g → (140 : Nat) ≠ e → (143 : Nat) ≠ e → g ≠ f.g ∧ g ≠ gf := fun ho g hg he he2 => ⟨Ne.symm (own_ne2 hrf ho (g := f.g) rfl hg he), Ne.symm (own_ne2 hgf ho (g := gf) (by rw [hfa]; rfl) hg he2)⟩
 have hold : ∀ f2 ∈ R, ∀ c ∈ f2.l, Im w' c.q0 c.x.rd ∧ Im w' c.q1 c.x.dur ∧ Im w' c.q2 c.x.syn ∧ Im w' c.q3 c.x.wri := fun f2 h2 c hc => by
  obtain ⟨a0, a1, a2, a3⟩ := h.ims f2 h2 c hc
  obtain ⟨b0, b1, b2, b3⟩ := h.fi f2 h2 c hc
  have nn : ∀ {q : Nat × Nat} {z : List Nat}, Im w q z → q.1 ≠ f.g ∧ q.1 ≠ gf := fun hq => hne hq _ rfl tyDF.2.2.2.2.2 tyDF.2.2.2.2.1
  exact ⟨own_other a0 (fun g hg => by cases hg; exact hb _ b0 (nn a0).1 (nn a0).2), own_other a1 (fun g hg => by cases hg; exact hb _ b1 (nn a1).1 (nn a1).2), own_other a2 (fun g hg => by cases hg; exact hb _ b2 (nn a2).1 (nn a2).2), own_other a3 (fun g hg => by cases hg; exact hb _ b3 (nn a3).1 (nn a3).2)⟩
 have hap : ∀ j a, j ≠ k → R[j]? = some a → a.g ≠ f'.g := fun j a hj ha e => by
  rcases hnew with h1 | h1
  ·
   exact nodup_ne h.apart ha hk hj (e.trans h1.symm)
  ·
   exact h1 (e ▸ h.fr a (lQ7 ha))
 refine ⟨?_, ?_, ?_, ?_, ?_, ?_, hFF _ h.fy, fun x hx => hFF _ (h.ff x hx), ?_, ?_⟩
 ·
  rw [List.length_set]
  have hy : y ≠ f.g := Ne.symm (own_ne hrf (g := f.g) rfl h.disk (Ne.symm tyDF.2.1))
  have hy2 : y ≠ gf := Ne.symm (own_ne hgf (g := gf) (by rw [hfa]; rfl) h.disk (Ne.symm tyDF.1))
  exact (hb y h.fy hy hy2).trans h.disk
 ·
  rw [List.length_set]
  exact hfiles
 ·
  intro f2 h2
  rcases mem_setY h2 with ⟨j, hj, h3⟩ | rfl
  ·
   have h3m := lQ7 h3
   exact own_other (h.rows f2 h3m) (fun g hg => by
    obtain rfl : f2.g = g := by simpa [Yf.row, Value.ownBlock] using hg
    exact hb _ (h.fr f2 h3m) (nodup_ne h.apart h3 hk hj) (Ne.symm (own_ne2 hgf (h.rows f2 h3m) (g := gf) (by rw [hfa]; rfl) rfl tyDF.2.2.2.1)))
  ·
   exact hrow
 ·
  intro f2 h2 c hc
  rcases mem_setY h2 with ⟨j, hj, h3⟩ | rfl
  ·
   exact hold f2 (lQ7 h3) c hc
  ·
   rcases him c hc with hc | hc
   ·
    exact hold f hm c hc
   ·
    exact hc.1
 ·
  intro f2 h2
  rcases mem_setY h2 with ⟨j, hj, h3⟩ | rfl
  ·
   exact h.ok f2 (lQ7 h3)
  ·
   refine ⟨by rw [hnm]; exact (h.ok f hm).1, hne0, fun x hx => ?_⟩
   rcases him x hx with hx | hx
   ·
    exact (h.ok f hm).2.2 x hx
   ·
    exact hx.2.1
 ·
  rw [List.Nodup, List.pairwise_iff_getElem]
  intro i j hi hj hij e
  rw [List.length_map, List.length_set] at hi hj
  simp only [List.getElem_map, List.getElem_set] at e
  by_cases h1 : k = i
  ·
   rw [if_pos h1, if_neg (by omega)] at e
   exact hap j _ (by omega) (lQ6 hj) e.symm
  ·
   rw [if_neg h1] at e
   by_cases h2 : k = j
   ·
    rw [if_pos h2] at e
    exact hap i _ (by omega) (lQ6 hi) e
   ·
    rw [if_neg h2] at e
    exact nodup_ne h.apart (lQ6 hi) (lQ6 hj) (by omega) e
 ·
  intro f2 h2
  rcases mem_setY h2 with ⟨j, hj, h3⟩ | rfl
  ·
   exact hFF _ (h.fr f2 (lQ7 h3))
  ·
   exact hFg
 ·
  intro f2 h2 c hc
  rcases mem_setY h2 with ⟨j, hj, h3⟩ | rfl
  ·
   obtain ⟨b0, b1, b2, b3⟩ := h.fi f2 (lQ7 h3) c hc
   exact ⟨hFF _ b0, hFF _ b1, hFF _ b2, hFF _ b3⟩
  ·
   rcases him c hc with hc | hc
   ·
    obtain ⟨b0, b1, b2, b3⟩ := h.fi f hm c hc
    exact ⟨hFF _ b0, hFF _ b1, hFF _ b2, hFF _ b3⟩
   ·
    exact hc.2.2
end Go.Proofs.YtdppolelakbbiaaGreatDoor

namespace Go.Proofs.YtdppolelakbbiaaGreatDoor
open Go.RowKit Go.Maps
set_option linter.unusedVariables false
theorem cellsR_set2 : ∀ (l : List Yf) (i : Nat) (c c' : Yf) (j : Nat) (v : Value), l[i]? = some c → j < 2 → c'.cells = c.cells.set j v → (cellsR l).set (i * 2 + j) v = cellsR (l.set i c')
 | a :: r, 0, c, c', j, v, h, hj, hc => by
  obtain rfl : a = c := by simpa using h
  show (a.cells ++ cellsR r).set (0 * 2 + j) v = c'.cells ++ cellsR r
  rw [List.set_append_left _ _ (by show 0 * 2 + j < 2; omega), hc, Nat.zero_mul, Nat.zero_add]
 | a :: r, i + 1, c, c', j, v, h, hj, hc => by
  show (a.cells ++ cellsR r).set ((i + 1) * 2 + j) v = a.cells ++ cellsR (r.set i c')
  rw [List.set_append_right _ _ (by show 2 ≤ _; omega), show (i + 1) * 2 + j - a.cells.length = i * 2 + j from by show (i + 1) * 2 + j - 2 = _; omega, cellsR_set2 r i c c' j v (by simpa using h) hj hc]
theorem src_of {w W : World} {ba boff : Nat} {zs : List Nat} (hBz : Bs w (some ⟨ba, boff, none⟩) 128 zs) (hW : W.heap[ba]? = w.heap[ba]?) : ∀ j u, (vb zs)[j]? = some u → W.cell? ((⟨ba, boff, none⟩ : Addr).add j) = some u := fun j u hj => by
 have hjl : j < 128 := by have := (lQ4.1 hj).1; rw [length_vb, hBz.1] at this; exact this
 have hcz := hBz.2.2.2.2 _ rfl j hjl
 have e : u = .int .u8 ((zs.getD j 0 : Nat) : Int) := by
  unfold vb at hj
  rw [List.getElem?_map] at hj
  obtain ⟨x, hx, rfl⟩ := Option.map_eq_some_iff.1 hj
  rw [List.getD_eq_getElem?_getD, hx]
  rfl
 rw [e, add_none]
 rw [add_none] at hcz
 exact (World.cell?_of_block (w := w) hW).trans hcz
theorem last5 (l : List Yc) (v0 v1 v2 v3 v4 u0 u3 u4 : Value) : ((((cellsC l ++ [v0, v1, v2, v3, v4]).set (l.length * 5) u0).set (l.length * 5 + 3) u3).set (l.length * 5 + 4) u4) = cellsC l ++ [u0, v1, v2, u3, u4] := by
 have hl := cellsC_length l
 rw [List.set_append_right _ _ (by omega), List.set_append_right _ _ (by omega), List.set_append_right _ _ (by omega), hl]
 simp
set_option maxHeartbeats 1000000 in
theorem new_end (w5 : World) (y : Nat) (F : Nat → Prop) (g fc : Nat) (R : List Yf) (room fuse : Int) (h5 : RyOf w5 y F (some ⟨g, 0, none⟩) fc R room fuse) (hL : ∀ b, F b → b < w5.heap.size) (k : Nat) (f : Yf) (hk : R[k]? = some f) (zs : List Nat) (ba boff cap : Nat) (hBF : BsF F w5 (some ⟨ba, boff, none⟩) 128 zs)
  (A B g2 c2 : Nat) (W : World) (ho : W.ownsRow 0 140 5 (.slice (some ⟨g2, 0, none⟩) (f.l.length + 1) c2) (f.l.length + 1) (cellsC f.l ++ [.slice none 0 0, .slice (some ⟨A, 0, none⟩) 128 128, .slice (some ⟨B, 0, none⟩) 128 128, .slice none 0 0, .bool false])) (hMA : Im W (A, 128) zeroY128) (hMB : Im W (B, 128) zeroY128) (nA : w5.heap.size ≤ A) (nB : w5.heap.size ≤ B) (hg2 : f.g = g2 ∨ w5.heap.size ≤ g2) (hK : Keeps (fun b => b = f.g) w5 W) :
  ∃ (q1 : Nat × Nat) (W2 : World) (q2 : Nat × Nat) (W4 : World),
   (Builtin.append_ #[28, 28] 28 #[.slice (some ⟨(W.setCell ⟨g, k * 2 + 1, none⟩ (.slice (some ⟨g2, 0, none⟩) (f.l.length + 1) c2)).heap.size, 0, none⟩) 0 0, .slice (some ⟨ba, boff, none⟩) 128 cap]).run Tryz.prog ((W.setCell ⟨g, k * 2 + 1, none⟩ (.slice (some ⟨g2, 0, none⟩) (f.l.length + 1) c2)).alloc (.cells #[] 5)) = .ok (im q1) W2 ∧
   (Builtin.append_ #[28, 28] 28 #[.slice (some ⟨W2.heap.size, 0, none⟩) 0 0, .slice (some ⟨ba, boff, none⟩) 128 cap]).run Tryz.prog (W2.alloc (.cells #[] 5)) = .ok (im q2) W4 ∧
   (W.setCell ⟨g, k * 2 + 1, none⟩ (.slice (some ⟨g2, 0, none⟩) (f.l.length + 1) c2)).cell? ⟨y, 1, none⟩ = some (.slice (some ⟨g, 0, none⟩) R.length fc) ∧ (W.setCell ⟨g, k * 2 + 1, none⟩ (.slice (some ⟨g2, 0, none⟩) (f.l.length + 1) c2)).cell? ⟨g, k * 2 + 1, none⟩ = some (.slice (some ⟨g2, 0, none⟩) (f.l.length + 1) c2) ∧
   W4.cell? ⟨g2, f.l.length * 5, none⟩ = some (.slice none 0 0) ∧ W4.cell? ⟨g2, f.l.length * 5 + 3, none⟩ = some (.slice none 0 0) ∧ W4.cell? ⟨g2, f.l.length * 5 + 4, none⟩ = some (.bool false) ∧ (∃ cur, W4.heap[g2]? = some (.cells cur 140 (0, 0))) ∧
   ∃ F' c', RyOf (((W4.setCell ⟨g2, f.l.length * 5, none⟩ (im q1)).setCell ⟨g2, f.l.length * 5 + 3, none⟩ (im q2)).setCell ⟨g2, f.l.length * 5 + 4, none⟩ (.bool true)) y F' (some ⟨g, 0, none⟩) fc (R.set k ⟨f.name, g2, c2, f.l ++ [c']⟩) room fuse ∧ c'.x = zeroE.wrote zs ∧ Gr F F' w5 (((W4.setCell ⟨g2, f.l.length * 5, none⟩ (im q1)).setCell ⟨g2, f.l.length * 5 + 3, none⟩ (im q2)).setCell ⟨g2, f.l.length * 5 + 4, none⟩ (.bool true)) := by
 have hm := lQ7 hk
 have hBz := hBF.1
 have hnF : ¬ F ba := hBF.2 _ rfl (by omega)
 have hFg := h5.ff _ rfl
 have hFf := h5.fr f hm
 have hba : ba < w5.heap.size := by
  have := block_lt_of_cell (hBz.2.2.2.2 _ rfl 0 (by omega))
  rw [add_none] at this
  exact this
 have hgf : g ≠ f.g := own_ne2 h5.files (h5.rows f hm) (g := g) rfl rfl tyDF.2.2.2.1
 have hyg : y ≠ g := Ne.symm (own_ne h5.files (g := g) rfl h5.disk (Ne.symm tyDF.1))
 have hyf : y ≠ f.g := Ne.symm (own_ne (h5.rows f hm) (g := f.g) rfl h5.disk (Ne.symm tyDF.2.1))
 have hgg : g2 ≠ g := by
  rcases hg2 with rfl | h
  ·
   exact Ne.symm hgf
  ·
   have := hL g hFg; omega
 have hyg2 : g2 ≠ y := by
  rcases hg2 with rfl | h
  ·
   exact Ne.symm hyf
  ·
   have := hL y h5.fy; omega
 have hoth7 : ∀ b, b ≠ g → (W.setCell ⟨g, k * 2 + 1, none⟩ (.slice (some ⟨g2, 0, none⟩) (f.l.length + 1) c2)).heap[b]? = W.heap[b]? := fun b hb => Below.heap_setCell W ⟨g, k * 2 + 1, none⟩ _ b hb
 have hs7 : (W.setCell ⟨g, k * 2 + 1, none⟩ (.slice (some ⟨g2, 0, none⟩) (f.l.length + 1) c2)).heap.size = W.heap.size := by simp [World.setCell]
 have hfW : W.ownsRow 0 143 2 (.slice (some ⟨g, 0, none⟩) R.length fc) R.length (cellsR R) := own_other h5.files (fun b hb => by cases hb; exact hK.block g (hL g hFg) hgf)
 have hf7 := own_putY hfW (k * 2 + 1) (.slice (some ⟨g2, 0, none⟩) (f.l.length + 1) c2)
 have hrow7 : (W.setCell ⟨g, k * 2 + 1, none⟩ (.slice (some ⟨g2, 0, none⟩) (f.l.length + 1) c2)).ownsRow 0 140 5 (.slice (some ⟨g2, 0, none⟩) (f.l.length + 1) c2) (f.l.length + 1) (cellsC f.l ++ [.slice none 0 0, .slice (some ⟨A, 0, none⟩) 128 128, .slice (some ⟨B, 0, none⟩) 128 128, .slice none 0 0, .bool false]) := own_other ho (fun b hb => by cases hb; exact hoth7 g2 hgg)
 have hAg : A ≠ g := by have := hL g hFg; omega
 have hBg : B ≠ g := by have := hL g hFg; omega
 have hMA7 : Im (W.setCell ⟨g, k * 2 + 1, none⟩ (.slice (some ⟨g2, 0, none⟩) (f.l.length + 1) c2)) (A, 128) zeroY128 := own_other hMA (fun b hb => by cases hb; exact hoth7 A hAg)
 have hMB7 : Im (W.setCell ⟨g, k * 2 + 1, none⟩ (.slice (some ⟨g2, 0, none⟩) (f.l.length + 1) c2)) (B, 128) zeroY128 := own_other hMB (fun b hb => by cases hb; exact hoth7 B hBg)
 have hblk : ∀ b, b < w5.heap.size → b ≠ f.g → b ≠ g → (W.setCell ⟨g, k * 2 + 1, none⟩ (.slice (some ⟨g2, 0, none⟩) (f.l.length + 1) c2)).heap[b]? = w5.heap[b]? := fun b h1 h2 h3 => (hoth7 b h3).trans (hK.block b h1 h2)
 have hsW : w5.heap.size ≤ W.heap.size := hK.size
 have hc1 : (W.setCell ⟨g, k * 2 + 1, none⟩ (.slice (some ⟨g2, 0, none⟩) (f.l.length + 1) c2)).cell? ⟨y, 1, none⟩ = some (.slice (some ⟨g, 0, none⟩) R.length fc) := by
  rw [World.cell?_of_block (w := w5) (a := ⟨y, 1, none⟩) (hblk y (hL y h5.fy) hyf hyg), cell_of_row _ _ _ _ _ _ h5.disk]
  rfl
 have hkl := (lQ4.1 hk).1
 have hc2 : (W.setCell ⟨g, k * 2 + 1, none⟩ (.slice (some ⟨g2, 0, none⟩) (f.l.length + 1) c2)).cell? ⟨g, k * 2 + 1, none⟩ = some (.slice (some ⟨g2, 0, none⟩) (f.l.length + 1) c2) := by
  have h1 := hf7.cells (g := g) rfl (k * 2 + 1) (.slice (some ⟨g2, 0, none⟩) (f.l.length + 1) c2) (by rw [List.getElem?_set_self (by rw [cellsR_length]; omega)])
  rw [add_none, Nat.zero_add] at h1
  exact h1
 obtain ⟨Wz, hWz⟩ : ∃ Wz, Wz = (W.setCell ⟨g, k * 2 + 1, none⟩ (.slice (some ⟨g2, 0, none⟩) (f.l.length + 1) c2)) := ⟨_, rfl⟩
 rw [← hWz] at hf7 hrow7 hMA7 hMB7 hblk hc1 hc2 hs7 ⊢
 have hW1 : Below Wz.heap.size Wz (Wz.alloc (.cells #[] 5)) := (Below.refl _ _).alloc (Nat.le_refl _) _
 have hbaN : ba ≠ f.g ∧ ba ≠ g := ⟨fun e => hnF (e ▸ hFf), fun e => hnF (e ▸ hFg)⟩
 have hsrc : ∀ W', Below Wz.heap.size Wz W' → ∀ j u, (vb zs)[j]? = some u → W'.cell? ((⟨ba, boff, none⟩ : Addr).add j) = some u := fun W' hb => src_of hBz ((hb.block ba (by omega)).trans (hblk ba hba hbaN.1 hbaN.2))
 obtain ⟨q1, W2, hr1', hi1, hq1, hqs1, hg1⟩ := cpy (Wz.alloc (.cells #[] 5)) Wz.heap.size (heap_alloc_new _ _) ⟨ba, boff, none⟩ cap zs hBz.1 (hsrc _ hW1)
 have hW2 : Below Wz.heap.size Wz W2 := hW1.grown hg1 hW1.size (fun k hk => by cases hk; exact Nat.le_refl _)
 have hW3 : Below Wz.heap.size Wz (W2.alloc (.cells #[] 5)) := hW2.alloc hW2.size _
 obtain ⟨q2, W4, hr2', hi2, hq2, hqs2, hg2'⟩ := cpy (W2.alloc (.cells #[] 5)) W2.heap.size (heap_alloc_new _ _) ⟨ba, boff, none⟩ cap zs hBz.1 (hsrc _ hW3)
 have hW4 : Below Wz.heap.size Wz W4 := hW3.grown hg2' hW3.size (fun k hk => by cases hk; exact hW2.size)
 have hi1' : Im W4 q1 zs := im_grown (im_grown hi1 (grown_alloc W2 _) (fun e => by cases e)) hg2' (fun e => by have := lQ5 e; omega)
 have hg2lt : g2 < Wz.heap.size := own_lt hrow7 g2 rfl
 have hrow4 : W4.ownsRow 0 140 5 (.slice (some ⟨g2, 0, none⟩) (f.l.length + 1) c2) (f.l.length + 1) (cellsC f.l ++ [.slice none 0 0, .slice (some ⟨A, 0, none⟩) 128 128, .slice (some ⟨B, 0, none⟩) 128 128, .slice none 0 0, .bool false]) := own_other hrow7 (fun b hb => by cases hb; exact hW4.block g2 hg2lt)
 have hgl : g < Wz.heap.size := own_lt hf7 g rfl
 obtain ⟨cur, hcur⟩ := own_ty hrow4 (g := g2) rfl
 have hcl := cellsC_length f.l
 have key : ∀ j v, j < 5 → ([.slice none 0 0, .slice (some ⟨A, 0, none⟩) 128 128, .slice (some ⟨B, 0, none⟩) 128 128, .slice none 0 0, .bool false] : List Value)[j]? = some v → W4.cell? ⟨g2, f.l.length * 5 + j, none⟩ = some v := fun j v hj hv => by
  have h1 := hrow4.cells (g := g2) rfl (f.l.length * 5 + j) v (by rw [List.getElem?_append_right (by omega), hcl, Nat.add_sub_cancel_left]; exact hv)
  rw [add_none, Nat.zero_add] at h1
  exact h1
 obtain ⟨c', hc'⟩ : ∃ c' : Yc, c' = ⟨zeroE.wrote zs, q1, (A, 128), (B, 128), q2⟩ := ⟨_, rfl⟩
 have hp3 := own_putY (own_putY (own_putY hrow4 (f.l.length * 5) (im q1)) (f.l.length * 5 + 3) (im q2)) (f.l.length * 5 + 4) (.bool true)
 rw [last5] at hp3
 have hp4 : (((W4.setCell ⟨g2, f.l.length * 5, none⟩ (im q1)).setCell ⟨g2, f.l.length * 5 + 3, none⟩ (im q2)).setCell ⟨g2, f.l.length * 5 + 4, none⟩ (.bool true)).ownsRow 0 140 5 (.slice (some ⟨g2, 0, none⟩) (f.l.length + 1) c2) (f.l.length + 1) (cellsC (f.l ++ [c'])) := by
  rw [cellsC_app, hc']
  exact hp3
 have hothF : ∀ b, b ≠ g2 → (((W4.setCell ⟨g2, f.l.length * 5, none⟩ (im q1)).setCell ⟨g2, f.l.length * 5 + 3, none⟩ (im q2)).setCell ⟨g2, f.l.length * 5 + 4, none⟩ (.bool true)).heap[b]? = W4.heap[b]? := fun b hb => by
  rw [Below.heap_setCell _ ⟨g2, f.l.length * 5 + 4, none⟩ _ b hb, Below.heap_setCell _ ⟨g2, f.l.length * 5 + 3, none⟩ _ b hb, Below.heap_setCell _ ⟨g2, f.l.length * 5, none⟩ _ b hb]
 have hkI : ∀ (q : Nat × Nat) (z : List Nat), Im W4 q z → Im (((W4.setCell ⟨g2, f.l.length * 5, none⟩ (im q1)).setCell ⟨g2, f.l.length * 5 + 3, none⟩ (im q2)).setCell ⟨g2, f.l.length * 5 + 4, none⟩ (.bool true)) q z := fun q z hq => own_other hq (fun b hb => hothF b (Ne.symm (own_ne2 hrow4 hq (g := g2) rfl hb tyDF.2.2.2.2.2)))
 have hMA4 : Im W4 (A, 128) zeroY128 := own_other hMA7 (fun b hb => by cases hb; exact hW4.block A (own_lt hMA7 A rfl))
 have hMB4 : Im W4 (B, 128) zeroY128 := own_other hMB7 (fun b hb => by cases hb; exact hW4.block B (own_lt hMB7 B rfl))
 have hz128 : zeroY128 = List.replicate 128 0 := rfl
 have hsF : (((W4.setCell ⟨g2, f.l.length * 5, none⟩ (im q1)).setCell ⟨g2, f.l.length * 5 + 3, none⟩ (im q2)).setCell ⟨g2, f.l.length * 5 + 4, none⟩ (.bool true)).heap.size = W4.heap.size := by simp [World.setCell]
 have hs4 := hW4.size
 have hfF : (((W4.setCell ⟨g2, f.l.length * 5, none⟩ (im q1)).setCell ⟨g2, f.l.length * 5 + 3, none⟩ (im q2)).setCell ⟨g2, f.l.length * 5 + 4, none⟩ (.bool true)).ownsRow 0 143 2 (.slice (some ⟨g, 0, none⟩) R.length fc) R.length (cellsR (R.set k ⟨f.name, g2, c2, f.l ++ [c']⟩)) := by
  rw [← cellsR_set2 R k f ⟨f.name, g2, c2, f.l ++ [c']⟩ 1 (.slice (some ⟨g2, 0, none⟩) (f.l.length + 1) c2) hk (by omega) (by simp [Yf.cells, Yf.row])]
  exact own_other hf7 (fun b hb => by cases hb; exact (hothF g (Ne.symm hgg)).trans (hW4.block g hgl))
 have hFin := h5.turnF (w' := (((W4.setCell ⟨g2, f.l.length * 5, none⟩ (im q1)).setCell ⟨g2, f.l.length * 5 + 3, none⟩ (im q2)).setCell ⟨g2, f.l.length * 5 + 4, none⟩ (.bool true))) (F' := fun b => F b ∨ b = g2 ∨ b = A ∨ b = B ∨ b = q1.1 ∨ b = q2.1) hk ⟨f.name, g2, c2, f.l ++ [c']⟩ g rfl hfF (by show (((W4.setCell ⟨g2, f.l.length * 5, none⟩ (im q1)).setCell ⟨g2, f.l.length * 5 + 3, none⟩ (im q2)).setCell ⟨g2, f.l.length * 5 + 4, none⟩ (.bool true)).ownsRow 0 _ 5 (.slice (some ⟨g2, 0, none⟩) (f.l ++ [c']).length c2) (f.l ++ [c']).length (cellsC (f.l ++ [c'])); rw [List.length_append, List.length_singleton]; exact hp4)
  (fun b hb h1 h2 => by
   have hb2 : b ≠ g2 := by
    rcases hg2 with rfl | h
    ·
     exact h1
    ·
     have := hL b hb; omega
   exact ((hothF b hb2).trans (hW4.block b (by have := hL b hb; omega))).trans (hblk b (hL b hb) h1 h2))
  (fun c hc => by
   rcases List.mem_append.1 hc with hc | hc
   ·
    exact .inl hc
   ·
    obtain rfl := List.mem_singleton.1 hc
    rw [hc']
    refine .inr ⟨⟨hkI _ _ hi1', hkI _ _ hMA4, hkI _ _ hMB4, hkI _ _ hi2⟩, ?_, .inr (.inr (.inr (.inr (.inl rfl)))), .inr (.inr (.inl rfl)), .inr (.inr (.inr (.inl rfl))), .inr (.inr (.inr (.inr (.inr rfl))))⟩
    refine ⟨⟨by simp [zeroE, Ext.wrote], fun y hy => ?_⟩, ⟨by simp [zeroE, Ext.wrote], fun y hy => ?_⟩, hBz.1, hBz.2.2.1⟩
    ·
     simp [zeroE, Ext.wrote] at hy; omega
    ·
     simp [zeroE, Ext.wrote] at hy; omega)
  rfl (by simp) (fun b hb => .inl hb) (.inr (.inl rfl)) (by
   rcases hg2 with h | h
   ·
    exact .inl h
   ·
    exact .inr (fun hf => by have := hL _ hf; simp only at this; omega))
 refine ⟨q1, W2, q2, W4, hr1', hr2', hc1, hc2, key 0 _ (by omega) rfl, key 3 _ (by omega) rfl, key 4 _ (by omega) rfl, ⟨cur, hcur⟩, _, c', hFin, by rw [hc'], ?_⟩
 have hk7 : Keeps F w5 Wz := ⟨by rw [hWz]; exact hK.os, by rw [hWz]; exact hK.tape, by rw [hWz]; exact hK.output, by omega, fun b hb hn => hblk b hb (fun e => hn (e ▸ hFf)) (fun e => hn (e ▸ hFg))⟩
 have hsA := own_lt hMA7 A rfl
 have hsB := own_lt hMB7 B rfl
 have hsq := hg2'.size
 rw [World.size_alloc] at hsq hq1 hq2
 have hs2 := hW2.size
 refine ⟨⟨by rw [← hk7.os, ← hW4.os]; rfl, by rw [← hk7.tape, ← hW4.tape]; rfl, by rw [← hk7.output, ← hW4.output]; rfl, by omega, fun b hb hn => ?_⟩, fun b hb => ?_⟩
 ·
  have hb2 : b ≠ g2 := by
   rcases hg2 with rfl | h
   ·
    exact fun e => hn (e ▸ hFf)
   ·
    omega
  exact (hothF b hb2).trans ((hW4.block b (by omega)).trans (hk7.block b hb hn))
 ·
  rw [hsF]
  rcases hb with hb | rfl | rfl | rfl | rfl | rfl
  ·
   exact .inl hb
  ·
   rcases hg2 with rfl | h
   ·
    exact .inl hFf
   ·
    exact .inr ⟨h, by omega⟩
  ·
   exact .inr ⟨nA, by omega⟩
  ·
   exact .inr ⟨nB, by omega⟩
  ·
   exact .inr ⟨by omega, by omega⟩
  ·
   exact .inr ⟨by omega, hqs2⟩
end Go.Proofs.YtdppolelakbbiaaGreatDoor
