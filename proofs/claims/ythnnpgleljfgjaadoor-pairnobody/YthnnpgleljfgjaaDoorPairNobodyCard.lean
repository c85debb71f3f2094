/- dryrotlaw05.PairNobody returns true for every call: a disk that no call made, nil or zero, answers ErrNil to all that is asked of a pair on it; no condition but that crc.steps starts as the program lays it. -/
import Derived.Test.YthnnpgleljfgjaaDoorCards
import Derived.Test.YthnnpgleljfgjaaDoorTie
import Derived.Test.YthnnpgleljfgjaaDoorOpen
import Derived.Test.YthnnpgleljfgjaaDoorPNobodyWalk
import Derived.Test.YthnnpgleljfgjaaDoorPairAwake
import Derived.WalkKit
import Derived.ProofKit
import Derived.OpenShut
import Derived.ChangeOld
import Derived.Deep.DeepHandedRow
import Derived.Lib.LaidTab
namespace Go.Proofs.YthnnpgleljfgjaaDoor.pairNobody
open Go.ChangeShapes Go.WideShapes Go.ChangeAt Go.RowKit
set_option linter.unusedVariables false

theorem own : ownKnob Tryd.prog.godebug = none := by kernel_rfl
theorem laidOut : laidOutB Tryd.prog = true := by kernel_rfl
theorem gTab : Tryd.prog.globalNamed "dryrot/crc.steps" = some 0 := by kernel_rfl
theorem gTabType : (Tryd.prog.globals[0]?).map (·.type) = some 109 := by kernel_rfl
theorem cellsTab : Tryd.prog.cellsOf 109 = 4 := by kernel_rfl
theorem cellsElem : Tryd.prog.cellsOf 101 = 1 := by kernel_rfl
theorem table {W : World} (h : laidMetH Tryd.prog Rows.pairNobodyRow.laid W) : CrcTab W := by
  have hh : Lib.TabIs Tryd.prog W "dryrot/crc.steps" .u32 [0, 1098587580, 2197175160, 3280807620] :=
    Lib.tabIs_of_head (rest := []) gTab gTabType Tryd.underlying109 Tryd.underlying101 cellsElem cellsTab h
  exact ⟨hh.cell gTab 0 (by decide), hh.cell gTab 1 (by decide), hh.cell gTab 2 (by decide), hh.cell gTab 3 (by decide)⟩

set_option maxRecDepth 100000 in
theorem contract (H : Type) (enc : TypeId × Value → H) (W : World) (base : Nat) (args : Array Value) (ds gs : List (DataW H)) (before : List MemPlace)
    (hval : ∀ (j : Nat) t v, Tryd.f3.params[j]? = some t → args[j]? = some v → Value.okWide Tryd.prog W .any base t v)
    (hW : DataW.Whole enc Tryd.prog Tryd.f3.params.toList Rows.pairNobodySpec.vars false W args.toList ds gs before)
    (hsz0 : ((DataW.weightsEach Tryd.prog (Tryd.f3.params.toList ++ DataSpec.varTypes Tryd.prog (OpenSpec.ofChange Rows.pairNobodySpec).bare.plain) (ds ++ gs)).all fun x => decide (x ≤ reachBytes)) = true)
    (hL : laidMetH Tryd.prog Rows.pairNobodyRow.laid W) :
    Calls Tryd.prog 3 args W fun e W' => ∃ v, e = .returned v ∧ Rows.pairNobodySpec.post enc Tryd.prog Tryd.f3 false true false false W args v W' := by
  have hT := table hL
  have hW' := hW
  obtain ⟨p, q, hA0, hV, rfl, hfz, hnd⟩ := hW
  have hA : DataW.TrodAll enc Tryd.prog W 0 (fun _ => true) true Tryd.f3.params.toList args.toList ds p := hA0
  rw [Tryd.params3] at hA hval hsz0
  obtain ⟨v0, vs0, d0, ds0, p0, q0, hargs, rfl, rfl, h0, r0⟩ := trodAll_cons hA
  obtain ⟨rfl, rfl, rfl⟩ := trodAll_nil r0
  obtain rfl : args = #[v0] := by cases args; simp_all
  obtain ⟨rfl, rfl⟩ := trodVars_none hV
  have k0 := h0
  have lt0 : ∀ x ∈ p0, x.block < W.heap.size := by obtain ⟨m, hm⟩ := k0; exact DataW.trod_lt m _ _ _ hm
  obtain ⟨⟨cs⟩, rfl, hcs⟩ := okWide_struct Tryd.underlying27 (hval 0 27 v0 rfl rfl)
  rw [doCells5] at hcs
  obtain ⟨y0, c0, rfl, hcs0⟩ := len_cons cs (by simpa using hcs)
  obtain ⟨y1, c1, rfl, hcs1⟩ := len_cons c0 (hcs0)
  obtain ⟨y2, c2, rfl, hcs2⟩ := len_cons c1 (hcs1)
  obtain ⟨y3, c3, rfl, hcs3⟩ := len_cons c2 (hcs2)
  obtain ⟨y4, c4, rfl, hcs4⟩ := len_cons c3 (hcs3)
  obtain ⟨y5, c5, rfl, hcs5⟩ := len_cons c4 (hcs4)
  obtain ⟨y6, c6, rfl, hcs6⟩ := len_cons c5 (hcs5)
  obtain ⟨y7, c7, rfl, hcs7⟩ := len_cons c6 (hcs6)
  obtain ⟨y8, c8, rfl, hcs8⟩ := len_cons c7 (hcs7)
  obtain ⟨y9, c9, rfl, hcs9⟩ := len_cons c8 (hcs8)
  obtain ⟨y10, c10, rfl, hcs10⟩ := len_cons c9 (hcs9)
  obtain ⟨y11, c11, rfl, hcs11⟩ := len_cons c10 (hcs10)
  obtain ⟨y12, c12, rfl, hcs12⟩ := len_cons c11 (hcs11)
  obtain rfl := List.length_eq_zero_iff.1 hcs12
  clear hA0
  refine (pairNobody_walk y0 y1 y2 y3 y4 y5 y6 y7 y8 y9 y10 y11 y12 W (fun W1 b1 => awake5_any W1 (hT.below b1))).mono fun e W' ⟨he, bel⟩ => ?_
  subst he
  exact ⟨_, rfl, _, _, _, [], _, [], hW', trodAll_mk1 (shut_bool Tryd.underlying4 _), (trodAll_cons_mk (Below.trod laidOut (by kernel_rfl) (of_decide_eq_true (by kernel_rfl)) k0 bel lt0) trodAll_mk0), rfl, bel.frame _, fun h => by cases h⟩

noncomputable def laidWorld (os : Os) : World :=
  { World.holding Tryd.prog os ⟨#[], #[], []⟩ with heap := (World.holding Tryd.prog os ⟨#[], #[], []⟩).heap.modify 0 fun
      | .cells _ t frozen => .cells #[.int .u32 0, .int .u32 1098587580, .int .u32 2197175160, .int .u32 3280807620] t frozen
      | o => o }
theorem laid_met (os : Os) : laidMet Tryd.prog Rows.pairNobodyRow.laid ((laidWorld os).forCall (fun _ _ => 0) ⟨#[], #[.agg #[.int .i64 0, .int .i64 0, .int .i64 0, .string ⟨#[]⟩, .slice none 0 0, .int .i64 0, .int .i64 0, .int .i64 0, .int .i64 0, .string ⟨#[]⟩, .slice none 0 0, .int .u8 0, .slice none 0 0]], []⟩).memory :=
  laidMet_of_run' 8 (by kernel_rfl) (by kernel_rfl)
theorem reads (os : Os) {H : Type} (enc : TypeId × Value → H) : ∃ places, DataW.whole enc Tryd.prog ((laidWorld os).forCall (fun _ _ => 0) ⟨#[], #[.agg #[.int .i64 0, .int .i64 0, .int .i64 0, .string ⟨#[]⟩, .slice none 0 0, .int .i64 0, .int .i64 0, .int .i64 0, .int .i64 0, .string ⟨#[]⟩, .slice none 0 0, .int .u8 0, .slice none 0 0]], []⟩).memory Tryd.f3.params.toList Rows.pairNobodySpec.vars false (#[.agg #[.int .i64 0, .int .i64 0, .int .i64 0, .string ⟨#[]⟩, .slice none 0 0, .int .i64 0, .int .i64 0, .int .i64 0, .int .i64 0, .string ⟨#[]⟩, .slice none 0 0, .int .u8 0, .slice none 0 0]] : Array Value).toList 8 = some ([.agg [.lit (.int .i64 0), .lit (.int .i64 0), .lit (.int .i64 0), .lit (.string []), .nil, .agg [.lit (.int .i64 0), .lit (.int .i64 0), .lit (.int .i64 0), .lit (.int .i64 0), .lit (.string []), .nil, .lit (.int .u8 0), .nil]]], [], places) :=
  ⟨[], by kernel_rfl⟩

set_option maxRecDepth 100000 in
theorem lifted (os : Os) (started : os.Started) (H : Type) (enc : TypeId × Value → H) (F : Stop.Interp) :
    ReturnsInHanded {} Tryd.checked os 3 .any ((OpenSpec.ofChange Rows.pairNobodySpec).preRow enc Tryd.prog Tryd.f3 Rows.pairNobodyRow.domain false Rows.pairNobodyRow.laid) (((OpenSpec.ofChange Rows.pairNobodySpec).at F).post enc Tryd.prog Tryd.f3 false true false false) := by
  obtain ⟨places, hx⟩ := reads os enc
  refine returnsInHanded_of_row (C := Tryd.checked) (s := OpenSpec.ofChange Rows.pairNobodySpec) own started (by kernel_rfl) Tryd.func3
    (witness_row_at (enc := enc) (C := Tryd.checked) false (laidWorld os) #[.agg #[.int .i64 0, .int .i64 0, .int .i64 0, .string ⟨#[]⟩, .slice none 0 0, .int .i64 0, .int .i64 0, .int .i64 0, .int .i64 0, .string ⟨#[]⟩, .slice none 0 0, .int .u8 0, .slice none 0 0]] rfl (by kernel_rfl) (by kernel_rfl) (by kernel_rfl)
      (OpenSpec.preRow_of_cond 8 hx (by kernel_rfl) (fun k hk => by cases hk) (by kernel_rfl) (laid_met os))) ?_
  intro W base args ds gs before hval hW _ _ hsz hL _ _
  exact contract H enc W base args ds gs before hval hW hsz hL

theorem said : Rows.PairNobodySaid :=
  OpenClaim.holds_of_cond 3 Tryd.f3 rfl rfl rfl rfl rfl rfl rfl ⟨rfl, rfl, rfl, rfl, rfl⟩ rfl rfl rfl rfl rfl (by kernel_rfl) Tryd.func3 (by kernel_rfl)
    (of_decide_eq_true (by kernel_rfl)) (by unfold Func.isWrapper; first | (rw [if_pos (by decide +kernel)]; kernel_rfl) | (rw [if_neg (by decide +kernel)]; exact ⟨rfl, rfl⟩))
    (fun os started H enc _ F => by rw [OpenClaim.pre_eq_preRow]; exact lifted os started H enc F)

theorem plain (f : FuncId) (fn : Func) (hf : Tryd.pinned.checked.prog.funcNamed "dryrot/dryrotlaw05.PairNobody" = some f) (hfn : Tryd.pinned.checked.prog.funcs[f]? = some fn) :
    false = Tryd.pinned.checked.prog.looks [] ∧ ∀ (j : Nat) t, fn.params[j]? = some t → Tryd.pinned.checked.prog.wantsStandIn t = false := by
  obtain rfl : f = 3 := Option.some.inj ((show Tryd.prog.funcNamed "dryrot/dryrotlaw05.PairNobody" = some 3 by kernel_rfl).symm.trans hf) |>.symm
  obtain rfl : fn = Tryd.f3 := (Option.some.inj (Tryd.func3.symm.trans hfn)).symm
  refine ⟨by kernel_rfl, fun j t ht => ?_⟩
  rw [Tryd.params3] at ht
  have hm := Array.mem_of_getElem? ht
  simp at hm
  subst hm
  exact (show Tryd.prog.wantsStandIn 27 = false by kernel_rfl)

theorem card : Rows.PairNobodyCardSaid :=
  Claim7.holds_tied_plain_at .later [] _ _ _ _ said (fun _ h => by cases h) (by kernel_rfl) (fun _ h => by cases h) pairNobody_row_tie rfl ⟨rfl, rfl⟩ (by kernel_rfl) rfl plain (by kernel_rfl)
end Go.Proofs.YthnnpgleljfgjaaDoor.pairNobody
namespace Go.Proofs.YthnnpgleljfgjaaDoor
theorem pairNobody_holds : Rows.PairNobodyCardSaid := pairNobody.card
#print axioms pairNobody_holds
end Go.Proofs.YthnnpgleljfgjaaDoor
