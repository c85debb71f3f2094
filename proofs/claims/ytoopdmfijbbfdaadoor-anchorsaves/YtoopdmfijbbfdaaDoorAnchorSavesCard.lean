/- Proved: dryrotlaw17.AnchorSaves is true at every anchor, either file, any list of turned bytes and any fuse: what was saved is read with one of both files turned, and wherever a second saving stops, the one ahead or the new one. No condition but the listed variable, which the card ties to the program's text. -/
import Derived.Test.YtoopdmfijbbfdaaDoorCards
import Derived.Test.YtoopdmfijbbfdaaDoorTie
import Derived.Test.YtoopdmfijbbfdaaDoorOpen
import Derived.Test.YtoopdmfijbbfdaaDoorAncOpen
import Derived.Test.YtoopdmfijbbfdaaDoorBoolOpen
import Derived.Test.YtoopdmfijbbfdaaDoorIntsOpenP
import Derived.Test.YtoopdmfijbbfdaaDoorMl
import Derived.WalkKit
import Derived.ProofKit
import Derived.OpenShut
import Derived.ChangeOld
import Derived.Deep.DeepHandedRow
import Derived.Lib.LaidTab
namespace Go.Proofs.YtoopdmfijbbfdaaDoor.anchorSaves
open Go.ChangeShapes Go.WideShapes Go.ChangeAt Go.RowKit
set_option linter.unusedVariables false

theorem own : ownKnob Tryd.prog.godebug = none := by kernel_rfl
theorem laidOut : laidOutB Tryd.prog = true := by kernel_rfl
theorem gTab : Tryd.prog.globalNamed "dryrot/crc.steps" = some 3 := by kernel_rfl
theorem gTabType : (Tryd.prog.globals[3]?).map (·.type) = some 154 := by kernel_rfl
theorem cellsTab : Tryd.prog.cellsOf 154 = 4 := by kernel_rfl
theorem cellsElem : Tryd.prog.cellsOf 110 = 1 := by kernel_rfl
theorem table {W : World} (h : laidMetH Tryd.prog Rows.anchorSavesRow.laid W) : CrcTab W := by
  have hh : Lib.TabIs Tryd.prog W "dryrot/crc.steps" .u32 [0, 1098587580, 2197175160, 3280807620] :=
    Lib.tabIs_of_head (rest := []) gTab gTabType Tryd.underlying154 Tryd.underlying110 cellsElem cellsTab h
  exact ⟨hh.cell gTab 0 (by decide), hh.cell gTab 1 (by decide), hh.cell gTab 2 (by decide), hh.cell gTab 3 (by decide)⟩

set_option maxRecDepth 100000 in
set_option maxHeartbeats 2000000 in
theorem contract (H : Type) (enc : TypeId × Value → H) (W : World) (base : Nat) (args : Array Value) (ds gs : List (DataW H)) (before : List MemPlace)
    (hval : ∀ (j : Nat) t v, Tryd.f6.params[j]? = some t → args[j]? = some v → Value.okWide Tryd.prog W .any base t v)
    (hW : DataW.Whole enc Tryd.prog Tryd.f6.params.toList Rows.anchorSavesSpec.vars false W args.toList ds gs before)
    (hsz0 : ((DataW.weightsEach Tryd.prog (Tryd.f6.params.toList ++ DataSpec.varTypes Tryd.prog (OpenSpec.ofChange Rows.anchorSavesSpec).bare.plain) (ds ++ gs)).all fun x => decide (x ≤ reachBytes)) = true)
    (hL : laidMetH Tryd.prog Rows.anchorSavesRow.laid W) :
    Calls Tryd.prog 6 args W fun e W' => ∃ v, e = .returned v ∧ Rows.anchorSavesSpec.post enc Tryd.prog Tryd.f6 false true false false W args v W' := by
  have hT := table hL
  have hW' := hW
  obtain ⟨p, q, hA0, hV, rfl, hfz, hnd⟩ := hW
  have hA : DataW.TrodAll enc Tryd.prog W 0 (fun _ => true) true Tryd.f6.params.toList args.toList ds p := hA0
  rw [Tryd.params6] at hA hval hsz0
  obtain ⟨v0, vs0, d0, ds0, p0, q0, hargs, rfl, rfl, h0, r0⟩ := trodAll_cons hA
  obtain ⟨v1, vs1, d1, ds1, p1, q1, rfl, rfl, rfl, h1, r1⟩ := trodAll_cons r0
  obtain ⟨v2, vs2, d2, ds2, p2, q2, rfl, rfl, rfl, h2, r2⟩ := trodAll_cons r1
  obtain ⟨v3, vs3, d3, ds3, p3, q3, rfl, rfl, rfl, h3, r3⟩ := trodAll_cons r2
  obtain ⟨rfl, rfl, rfl⟩ := trodAll_nil r3
  obtain rfl : args = #[v0, v1, v2, v3] := by cases args; simp_all
  obtain ⟨rfl, rfl⟩ := trodVars_none hV
  obtain ⟨a3, rfl, rfl, rfl, w3⟩ := open_int Tryd.underlying3 (hval 3 3 v3 rfl rfl) h3
  obtain ⟨t1, rfl, rfl, rfl⟩ := open_boolv Tryd.underlying4 (hval 1 4 v1 rfl rfl) h1
  have k0 := h0
  have lt0 : ∀ x ∈ p0, x.block < W.heap.size := by obtain ⟨m, hm⟩ := k0; exact DataW.trod_lt m _ _ _ hm
  obtain ⟨⟨cs0⟩, rfl, hcs0⟩ := okWide_struct Tryd.underlying23 (hval 0 23 v0 rfl rfl)
  rw [doCellsA] at hcs0
  obtain ⟨e0y0, e0c0, rfl, e0h0⟩ := len_consA cs0 (by simpa using hcs0)
  obtain ⟨e0y1, e0c1, rfl, e0h1⟩ := len_consA e0c0 (e0h0)
  obtain ⟨e0y2, e0c2, rfl, e0h2⟩ := len_consA e0c1 (e0h1)
  obtain ⟨e0y3, e0c3, rfl, e0h3⟩ := len_consA e0c2 (e0h2)
  obtain ⟨e0y4, e0c4, rfl, e0h4⟩ := len_consA e0c3 (e0h3)
  obtain ⟨e0y5, e0c5, rfl, e0h5⟩ := len_consA e0c4 (e0h4)
  obtain ⟨e0y6, e0c6, rfl, e0h6⟩ := len_consA e0c5 (e0h5)
  obtain ⟨e0y7, e0c7, rfl, e0h7⟩ := len_consA e0c6 (e0h6)
  obtain ⟨e0y8, e0c8, rfl, e0h8⟩ := len_consA e0c7 (e0h7)
  obtain ⟨e0y9, e0c9, rfl, e0h9⟩ := len_consA e0c8 (e0h8)
  obtain rfl := List.length_eq_zero_iff.1 e0h9
  obtain ⟨f0n0, f0n1, f0n2, f0n3, f0n4, f0n5, f0n6, f0n7, f0n8, f0n9, ⟨rfl, rfl, rfl, rfl, rfl, rfl, rfl, rfl, rfl, rfl⟩, fr0⟩ : ∃ n0 n1 n2 n3 n4 n5 n6 n7 n8 n9 : Int, (e0y0 = .int .i64 n0 ∧ e0y1 = .int .i64 n1 ∧ e0y2 = .int .i64 n2 ∧ e0y3 = .int .i64 n3 ∧ e0y4 = .int .i64 n4 ∧ e0y5 = .int .i64 n5 ∧ e0y6 = .int .i64 n6 ∧ e0y7 = .int .i64 n7 ∧ e0y8 = .int .i64 n8 ∧ e0y9 = .int .i64 n9) ∧ ∀ x ∈ [n0, n1, n2, n3, n4, n5, n6, n7, n8, n9], -9223372036854775808 ≤ x ∧ x ≤ 9223372036854775807 := by
    obtain ⟨m, hm⟩ := k0
    exact opens_anc hm
  obtain ⟨a2, len2, cap2, rfl⟩ := okWide_slice Tryd.underlying38 (hval 2 38 v2 rfl rfl)
  have k2 := h2
  have lt2 : ∀ x ∈ p2, x.block < W.heap.size := by obtain ⟨m, hm⟩ := k2; exact DataW.trod_lt m _ _ _ hm
  obtain ⟨z2, w2, lc2⟩ : ∃ l : List Int, Ils W a2 len2 l ∧ len2 ≤ cap2 := by
    obtain ⟨fuel, hf⟩ := h2
    exact opens_intsL hf
  clear hA0
  refine (anchorSaves_walk f0n0 f0n1 f0n2 f0n3 f0n4 f0n5 f0n6 f0n7 f0n8 f0n9 fr0 t1 a2 len2 cap2 z2 a3 W w2 hT).mono fun e W' ⟨he, bel⟩ => ?_
  subst he
  exact ⟨_, rfl, _, _, _, [], _, [], hW', trodAll_mk1 (shut_bool Tryd.underlying4 _), (trodAll_cons_mk (Below.trod laidOut (by kernel_rfl) (of_decide_eq_true (by kernel_rfl)) k0 bel lt0) (trodAll_cons_mk (shut_bool Tryd.underlying4 _) (trodAll_cons_mk (Below.trod laidOut (by kernel_rfl) (of_decide_eq_true (by kernel_rfl)) k2 bel lt2) (trodAll_cons_mk (shut_int Tryd.underlying3 w3) trodAll_mk0)))), rfl, bel.frame _, fun h => by cases h⟩

noncomputable def laidWorld (os : Os) : World :=
  { World.holding Tryd.prog os ⟨#[], #[], []⟩ with heap := (World.holding Tryd.prog os ⟨#[], #[], []⟩).heap.modify 3 fun
      | .cells _ t frozen => .cells #[.int .u32 0, .int .u32 1098587580, .int .u32 2197175160, .int .u32 3280807620] t frozen
      | o => o }
theorem laid_met (os : Os) : laidMet Tryd.prog Rows.anchorSavesRow.laid ((laidWorld os).forCall (fun _ _ => 0) ⟨#[], #[.agg #[.int .i64 0, .int .i64 0, .int .i64 0, .int .i64 0, .int .i64 0, .int .i64 0, .int .i64 0, .int .i64 0, .int .i64 0, .int .i64 0], .bool false, .slice none 0 0, .int .i64 0], []⟩).memory :=
  laidMet_of_run' 8 (by kernel_rfl) (by kernel_rfl)
theorem reads (os : Os) {H : Type} (enc : TypeId × Value → H) : ∃ places, DataW.whole enc Tryd.prog ((laidWorld os).forCall (fun _ _ => 0) ⟨#[], #[.agg #[.int .i64 0, .int .i64 0, .int .i64 0, .int .i64 0, .int .i64 0, .int .i64 0, .int .i64 0, .int .i64 0, .int .i64 0, .int .i64 0], .bool false, .slice none 0 0, .int .i64 0], []⟩).memory Tryd.f6.params.toList Rows.anchorSavesSpec.vars false (#[.agg #[.int .i64 0, .int .i64 0, .int .i64 0, .int .i64 0, .int .i64 0, .int .i64 0, .int .i64 0, .int .i64 0, .int .i64 0, .int .i64 0], .bool false, .slice none 0 0, .int .i64 0] : Array Value).toList 8 = some ([.agg [.lit (.int .i64 0), .lit (.int .i64 0), .lit (.int .i64 0), .lit (.int .i64 0), .lit (.int .i64 0), .lit (.int .i64 0), .lit (.int .i64 0), .lit (.int .i64 0), .lit (.int .i64 0), .lit (.int .i64 0)], .lit (.bool false), .nil, .lit (.int .i64 0)], [], places) :=
  ⟨[], by kernel_rfl⟩

set_option maxRecDepth 100000 in
theorem lifted (os : Os) (started : os.Started) (H : Type) (enc : TypeId × Value → H) (F : Stop.Interp) :
    ReturnsInHanded {} Tryd.checked os 6 .any ((OpenSpec.ofChange Rows.anchorSavesSpec).preRow enc Tryd.prog Tryd.f6 Rows.anchorSavesRow.domain false Rows.anchorSavesRow.laid) (((OpenSpec.ofChange Rows.anchorSavesSpec).at F).post enc Tryd.prog Tryd.f6 false true false false) := by
  obtain ⟨places, hx⟩ := reads os enc
  refine returnsInHanded_of_row (C := Tryd.checked) (s := OpenSpec.ofChange Rows.anchorSavesSpec) own started (by kernel_rfl) Tryd.func6
    (witness_row_at (enc := enc) (C := Tryd.checked) false (laidWorld os) #[.agg #[.int .i64 0, .int .i64 0, .int .i64 0, .int .i64 0, .int .i64 0, .int .i64 0, .int .i64 0, .int .i64 0, .int .i64 0, .int .i64 0], .bool false, .slice none 0 0, .int .i64 0] rfl (by kernel_rfl) (by kernel_rfl) (by kernel_rfl)
      (OpenSpec.preRow_of_cond 8 hx (by kernel_rfl) (fun k hk => by cases hk) (by kernel_rfl) (laid_met os))) ?_
  intro W base args ds gs before hval hW _ _ hsz hL _ _
  exact contract H enc W base args ds gs before hval hW hsz hL

theorem said : Rows.AnchorSavesSaid :=
  OpenClaim.holds_of_cond 6 Tryd.f6 rfl rfl rfl rfl rfl rfl rfl ⟨rfl, rfl, rfl, rfl, rfl⟩ rfl rfl rfl rfl rfl (by kernel_rfl) Tryd.func6 (by kernel_rfl)
    (of_decide_eq_true (by kernel_rfl)) (by unfold Func.isWrapper; first | (rw [if_pos (by decide +kernel)]; kernel_rfl) | (rw [if_neg (by decide +kernel)]; exact ⟨rfl, rfl⟩))
    (fun os started H enc _ F => by rw [OpenClaim.pre_eq_preRow]; exact lifted os started H enc F)

theorem plain (f : FuncId) (fn : Func) (hf : Tryd.pinned.checked.prog.funcNamed "dryrot/dryrotlaw17.AnchorSaves" = some f) (hfn : Tryd.pinned.checked.prog.funcs[f]? = some fn) :
    false = Tryd.pinned.checked.prog.looks [] ∧ ∀ (j : Nat) t, fn.params[j]? = some t → Tryd.pinned.checked.prog.wantsStandIn t = false := by
  obtain rfl : f = 6 := Option.some.inj ((show Tryd.prog.funcNamed "dryrot/dryrotlaw17.AnchorSaves" = some 6 by kernel_rfl).symm.trans hf) |>.symm
  obtain rfl : fn = Tryd.f6 := (Option.some.inj (Tryd.func6.symm.trans hfn)).symm
  refine ⟨by kernel_rfl, fun j t ht => ?_⟩
  rw [Tryd.params6] at ht
  have hm := Array.mem_of_getElem? ht
  simp at hm
  rcases hm with rfl | rfl | rfl | rfl
  · exact (show Tryd.prog.wantsStandIn 23 = false by kernel_rfl)
  · exact (show Tryd.prog.wantsStandIn 4 = false by kernel_rfl)
  · exact (show Tryd.prog.wantsStandIn 38 = false by kernel_rfl)
  · exact (show Tryd.prog.wantsStandIn 3 = false by kernel_rfl)

theorem card : Rows.AnchorSavesCardSaid :=
  Claim7.holds_tied_plain_at .later [] _ _ _ _ said (fun _ h => by cases h) (by kernel_rfl) (fun _ h => by cases h) anchorSaves_row_tie rfl ⟨rfl, rfl⟩ (by kernel_rfl) rfl plain (by kernel_rfl)
end Go.Proofs.YtoopdmfijbbfdaaDoor.anchorSaves
namespace Go.Proofs.YtoopdmfijbbfdaaDoor
theorem anchorSaves_holds : Rows.AnchorSavesCardSaid := anchorSaves.card
#print axioms anchorSaves_holds
end Go.Proofs.YtoopdmfijbbfdaaDoor
