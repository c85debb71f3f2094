/- Pairs: a file's write of a new extent; half a store; Store on a disk that has neither file. -/
import Derived.Test.YtoopdmfijbbfdaaDoorPairBase
namespace Go.Proofs.YtoopdmfijbbfdaaDoor
open Go.RowKit Go.Maps
set_option linter.unusedVariables false

/-- What is known of a disk and its surroundings. -/
structure Sound5 (w : World) (F : Nat → Prop) : Prop where
  tab : CrcTab w
  far : ¬ F 3
  lt : ∀ k, F k → k < w.heap.size
theorem Sound5.gr {w w' : World} {F F' : Nat → Prop} (h : Sound5 w F) (hg : Gr F F' w w') : Sound5 w' F' :=
  ⟨h.tab.kept hg.1 h.far, hg.not h.tab.lt h.far, hg.lt h.lt⟩
theorem Sound5.below {w w' : World} {F : Nat → Prop} (h : Sound5 w F) (hb : Below w.heap.size w w') : Sound5 w' F :=
  ⟨h.tab.below hb, h.far, fun k hk => Nat.lt_of_lt_of_le (h.lt k hk) hb.size⟩
theorem BsF.fresh {w w' : World} {F : Nat → Prop} {b : Nat} {len : Nat} {zs : List Nat} (h : Bs w' (some ⟨b, 0, none⟩) len zs) (hb : w.heap.size ≤ b) (hF : ∀ k, F k → k < w.heap.size) : BsF F w' (some ⟨b, 0, none⟩) len zs :=
  ⟨h, fun x hx _ hf => by cases hx; have := hF _ hf; simp at this; omega⟩

set_option maxHeartbeats 1000000 in
theorem pairWrite_new (w : World) (d : Nat) (F : Nat → Prop) (N : Nat) (M : List UInt8 → List Ext) (free fuse : Int) (h : DiskOf w d F N M free fuse) (hS : Sound5 w F) (s : ByteArray) (hs : nameB s.data.toList = true) (n o g : Nat) (HN : Hid (n = (M s.data.toList).length)) (ho : n * 385 = o)
    (a : Option Addr) (len cap : Nat) (p fz : List Nat) (hB : Bs w a len p) (hl : len ≤ 106) (hg : g ≤ 4611686018427387904) (HF : Hid (fz = frameB (nums s) n g p)) (h0 : fuse ≠ 0) (hf : -1 ≤ fuse) (hf2 : fuse ≤ 9223372036854775807) (hn : n ≤ 1000000) (hNm : N < maxLen) (hfr : 1 ≤ free) (hfr2 : free ≤ 1000000) :
    Calls Tryd.prog 56 #[.pointer (some ⟨d, 0, none⟩), .string s, .int .i64 n, .int .i64 g, .slice a len cap] w fun e w' => e = .returned (.int .i64 0) ∧ ∃ F', DiskOf w' d F' (N + 1) (upd M s.data.toList (M s.data.toList ++ [zeroE.wrote fz])) (free - 1) (burnt fuse) ∧ Gr F F' w w' := by
  have hsm : s.size ≤ maxLen := by have := (name_size hs).2; unfold maxLen; omega
  have HSN := hidn hs
  have HO := hidn ho
  clear hs ho
  go_enter Tryd.func56, Tryd.ntmps56
  go_wp2_with fail
  refine (frame_bs s n g n g rfl rfl a len cap p _ hB hS.tab hsm (by omega) hg hl fz HF).mono ?_
  rintro e w1 ⟨b, rfl, hb, _, hB1, hb1⟩
  have hD1 := h.below hb1
  have hBF := BsF.fresh hB1 hb hS.lt
  go_wp2_with fail
  refine (write_new _ d F N M free fuse hD1 s HSN.out n o HN HO.out b 0 128 fz hBF h0 hf hf2 hn hNm hfr hfr2).mono ?_
  rintro e w2 ⟨rfl, F2, hD2, hG2⟩
  go_wp2
  go_ret
  exact ⟨rfl, F2, hD2, (Gr.of (Keeps.of_below hb1)).trans hG2⟩

/-- How many extents a text has in one file, and its parts. -/
def extB (len : Nat) : Nat := if len = 0 then 1 else (len - 1) / 106 + 1
def partP (zs : List Nat) (k : Nat) : List Nat := (zs.drop (106 * k)).take (min (106 * k + 106) zs.length - 106 * k)
def fileL (s : ByteArray) (g : Nat) (zs : List Nat) (k : Nat) : List Ext := (List.range k).map fun j => zeroE.wrote (frameB (nums s) j g (partP zs j))
theorem fileL_length (s : ByteArray) (g : Nat) (zs : List Nat) (k : Nat) : (fileL s g zs k).length = k := by simp [fileL]
theorem fileL_succ (s : ByteArray) (g : Nat) (zs : List Nat) (k : Nat) : fileL s g zs (k + 1) = fileL s g zs k ++ [zeroE.wrote (frameB (nums s) k g (partP zs k))] := by simp [fileL, List.range_succ]
theorem burnt_none : burnt (-1) = -1 := rfl

end Go.Proofs.YtoopdmfijbbfdaaDoor
