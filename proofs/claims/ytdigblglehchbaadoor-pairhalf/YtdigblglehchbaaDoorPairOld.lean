/- Pairs: an extent that is there is written. -/
import Derived.Test.YtdigblglehchbaaDoorPairStore
import Derived.Test.YtdigblglehchbaaDoorMe
import Derived.Test.YtdigblglehchbaaDoorMd
namespace Go.Proofs.YtdigblglehchbaaDoor
open Go.RowKit Go.Maps
set_option linter.unusedVariables false
set_option maxHeartbeats 1000000 in
theorem pairWrite_old (w : World) (d : Nat) (F : Nat → Prop) (N : Nat) (M : List UInt8 → List Ext) (free fuse : Int) (h : DiskOf w d F N M free fuse) (hS : Sound5 w F) (s : ByteArray) (hs : nameB s.data.toList = true) (i n o g : Nat) (HN : Hid (n = (M s.data.toList).length)) (hi : i < n) (hi2 : i ≤ 2147483647) (ho : i * 385 = o)
    (a : Option Addr) (len cap : Nat) (p fz : List Nat) (hB : Bs w a len p) (hl : len ≤ 106) (hg : g ≤ 4611686018427387904) (HF : Hid (fz = frameB (nums s) i g p)) (h0 : fuse ≠ 0) (hf : -1 ≤ fuse) (hf2 : fuse ≤ 9223372036854775807) (x : Ext) (HX : Hid ((M s.data.toList)[i]? = some x)) :
    Calls Tryd.prog 28 #[.pointer (some ⟨d, 0, none⟩), .string s, .int .i64 i, .int .i64 g, .slice a len cap] w fun e w' => e = .returned (.int .i64 0) ∧ DiskOf w' d F N (upd M s.data.toList ((M s.data.toList).set i (x.wrote fz))) free (burnt fuse) ∧ Gr F F w w' := by
  have hsm : s.size ≤ maxLen := by have := (name_size hs).2; unfold maxLen; omega
  have HSN := hidn hs
  have HO := hidn ho
  clear hs ho
  go_enter Tryd.func28, Tryd.ntmps28
  go_wp2_with fail
  refine (frame_bs s i g i g rfl rfl a len cap p _ hB hS.tab hsm hi2 hg hl fz HF).mono ?_
  rintro e w1 ⟨b, rfl, hb, _, hB1, hb1⟩
  have hD1 := h.below hb1
  have hBF := BsF.fresh hB1 hb hS.lt
  go_wp2_with fail
  refine (write_old _ d F N M free fuse hD1 s HSN.out i n o HN hi HO.out b 0 128 fz hBF h0 hf hf2 x HX).mono ?_
  rintro e w2 ⟨rfl, hD2, hG2⟩
  go_wp2
  go_ret
  exact ⟨rfl, hD2, (Gr.of (Keeps.of_below hb1)).trans hG2⟩
end Go.Proofs.YtdigblglehchbaaDoor
