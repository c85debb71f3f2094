/- regex.Literal, of a pattern whose code points all stand behind a backslash. -/
import Derived.Test.YtpabojmmfobbcaaRxWr
namespace Go.Proofs.Ytpabojmmfobbcaa
open Go.RowKit Go.Joins
set_option linter.unusedVariables false
theorem bld_below {T e : TypeId} {B b : Nat} {bs : List Value} {W W' : World} (h : Lib.IsBuilderF T e B b bs W) (hb : Below W.heap.size W W') : Lib.IsBuilderF T e B b bs W' := by
  have key : ∀ {p : Value}, Lib.BuilderAtF T e B b p bs W → Lib.BuilderAtF T e B b p bs W' := by
    intro p h
    have hlt := h.lt
    obtain ⟨hB, v, hv, hown, hne⟩ := h
    exact ⟨hB, v, (hb.block b hlt).trans hv, hown.kept (row := none) ⟨hb.os, hb.tape, hb.output, hb.size, fun k hk _ => hb.block k hk⟩ (Classical.em _), hne⟩
  exact h.elim (fun x => .inl (key x)) (fun x => .inr (key x))
def litL (l : List Sg) : List UInt8 := l.flatMap fun s => Lib.encodeRune s.p
set_option maxHeartbeats 4000000 in
set_option maxRecDepth 100000 in
theorem literal_esc (p : ByteArray) (l : List Sg) (w : World) (hp : p.size ≤ maxLen) (HS : Hid (scanS p = some l)) (HE : Hid (∀ s ∈ l, s.esc = true)) :
    Calls Try.prog 10 #[.string p] w fun e w' => e = .returned (.tuple #[.string ⟨(litL l).toArray⟩, .bool true]) ∧ Below w.heap.size w w' := by
  go_enter Try.func10, Try.ntmps10
  go_wp2_with fail
  refine (scan_any p _ hp).mono ?_
  rintro e w1 ⟨b1, hpost⟩
  rw [HS.out] at hpost
  obtain ⟨v, rfl, hown, hl60, hsg⟩ := hpost
  obtain ⟨la, lc, hv⟩ : ∃ la lc, v = .slice la l.length lc := by
    rcases hown.2 with ⟨h1, h2⟩ | ⟨g, cap, cur, h1, _⟩
    · exact ⟨none, 0, by rw [h1, h2]⟩
    · exact ⟨_, _, h1⟩
  subst hv
  obtain ⟨L, hL⟩ : ∃ L, L = l.length := ⟨_, rfl⟩
  have HOWN := hidn hown
  have HSG := hidn hsg
  rw [← hL]
  rw [← hL] at HOWN hl60
  have HL := hidn hL
  clear hown hsg hL
  go_wp2_with fail
  obtain ⟨B, hBe⟩ : ∃ B, B = w1.heap.size := ⟨_, rfl⟩
  have hI0 : Lib.IsBuilderF 51 5 B B (Lib.byteCells (litL (l.take 0))) (w1.alloc (.cells #[.pointer none, .slice none 0 0] 51)) := by rw [hBe]; exact Lib.IsBuilderF.of (Lib.fresh_isBuilder 51 5 w1)
  have hb0 : Below B w1 (w1.alloc (.cells #[.pointer none, .slice none 0 0] 51)) := by rw [hBe]; exact (Below.refl _ _).alloc (Nat.le_refl _) _
  generalize w1.alloc (.cells #[.pointer none, .slice none 0 0] 51) = w2 at *
  rw [← hBe]
  have HBE := hidn hBe
  clear hBe
  go_loopw [18] (fun iv wr => ∃ j : Nat, j ≤ L ∧ iv = .int .i64 (j : Int) ∧ Lib.IsBuilderF 51 5 B B (Lib.byteCells (litL (l.take j))) wr ∧ Below B w1 wr) (fun iv _ => L - (intOf iv).toNat)
  case atStart => exact ⟨0, Nat.zero_le _, rfl, hI0, hb0⟩
  case round =>
    obtain ⟨j, hj, rfl, hI, hb⟩ := hrel
    by_cases hlt : j < L
    · have hlt2 : (j : Int) < (L : Int) := by omega
      obtain ⟨g, rfl⟩ : ∃ g, la = some ⟨g, 0, none⟩ := by
        rcases HOWN.out.2 with ⟨h1, h2⟩ | ⟨g, cap, cur, h1, _⟩
        · omega
        · cases h1; exact ⟨g, rfl⟩
      obtain ⟨s, hs⟩ : ∃ s, l[j]? = some s := ⟨_, List.getElem?_eq_getElem (by rw [← HL.out]; exact hlt)⟩
      obtain ⟨k0, k1⟩ := vsg_get l j s hs
      have hbw : Below w1.heap.size w1 wr := by rw [← HBE.out]; exact hb
      have hO := own_belowS HOWN.out hbw
      have c0 : wr.cell? ⟨g, j * 2, none⟩ = some (.int .i32 s.p) := by
        have := hO.cells (g := g) rfl _ _ k0
        have e : (⟨g, 0, none⟩ : Addr).add (j * 2) = ⟨g, j * 2, none⟩ := by
          unfold Addr.add
          by_cases hj0 : j * 2 = 0
          · simp [hj0]
          · simp [hj0]
        rw [e] at this
        exact this
      have c1 : wr.cell? ⟨g, j * 2 + 1, none⟩ = some (.bool s.esc) := by
        have := hO.cells (g := g) rfl _ _ k1
        simpa [Addr.add] using this
      have hok := HSG.out s (List.mem_of_getElem? hs)
      have hes := HE.out s (List.mem_of_getElem? hs)
      obtain ⟨sp, se⟩ := s
      simp only at c0 c1 hes
      subst hes
      have HSJ := hidn hs
      have HOK := hidn hok
      clear hs k0 k1 hO hok hbw
      have hj31 : j < 100000 := by omega
      obtain ⟨w3, hw3⟩ : ∃ w3, w3 = wr.alloc (.cells #[.int .i32 sp, .bool true] 53) := ⟨_, rfl⟩
      have hq3 : w3.heap[wr.heap.size]? = some (.cells #[.int .i32 sp, .bool true] 53 (0, 0)) := by rw [hw3]; exact heap_alloc_new _ _
      have hI3 : Lib.IsBuilderF 51 5 B B (Lib.byteCells (litL (l.take j))) w3 := by rw [hw3]; exact hI.alloc _
      have hBr : B ≤ wr.heap.size := by rw [HBE.out]; exact hb.size
      have hb3 : Below B w1 w3 := by rw [hw3]; exact hb.alloc hBr _
      have HW3 := hidn hw3
      clear hw3
      go_wp2_with fail
      rw [← HW3.out]
      refine (isOneOf_any ⟨sp, true⟩ ⟨#[46, 42, 43, 63, 124, 40, 41, 91]⟩ w3 (by decide) (by unfold AscS; decide) HOK.out).mono ?_
      rw [show oneOf (ptsOf ⟨#[46, 42, 43, 63, 124, 40, 41, 91]⟩) ⟨sp, true⟩ = false from rfl]
      rintro e w4 ⟨rfl, hb4⟩
      have hq4 := (hb4.block _ (Array.getElem?_eq_some_iff.1 hq3).1).trans hq3
      have hI4 := bld_below hI3 hb4
      have hb14 : Below B w1 w4 := hb3.trans (hb4.mono (by have := hb3.size; have := HBE.out; omega))
      have d0 : w4.cell? ⟨wr.heap.size, 0, none⟩ = some (.int .i32 sp) := cell_of_row _ _ _ _ _ _ hq4
      have d1 : w4.cell? ⟨wr.heap.size, 1, none⟩ = some (.bool true) := cell_of_row _ _ _ _ _ _ hq4
      have hlb : (litL (l.take j)).length ≤ 4 * j := by
        unfold litL
        have h1 : ∀ (m : List Sg), (m.flatMap fun s => Lib.encodeRune s.p).length ≤ 4 * m.length := by
          intro m
          induction m with
          | nil => simp
          | cons a r ih =>
            rw [List.flatMap_cons, List.length_append, List.length_cons]
            have h2 := runeCells_le a.p
            rw [← Lib.byteCells_encodeRune] at h2
            have h3 : (Lib.byteCells (Lib.encodeRune a.p)).length = (Lib.encodeRune a.p).length := by simp [Lib.byteCells]
            omega
        have h2 := h1 (l.take j)
        have h3 : (l.take j).length ≤ j := by rw [List.length_take]; omega
        omega
      have hlc : (Lib.byteCells (litL (l.take j))).length + 4 ≤ 140737488355328 := by
        have : (Lib.byteCells (litL (l.take j))).length = (litL (l.take j)).length := by simp [Lib.byteCells]
        omega
      have HLC := hidn hlc
      have HNX : Hid (Lib.byteCells (litL (l.take (j + 1))) = Lib.byteCells (litL (l.take j)) ++ Lib.runeCells sp) := hidn (by
        obtain ⟨hj', he⟩ := List.getElem?_eq_some_iff.1 HSJ.out
        rw [List.take_succ_eq_append_getElem hj', he]
        unfold litL
        rw [List.flatMap_append, Lib.byteCells_append, List.flatMap_cons, List.flatMap_nil, List.append_nil, Lib.byteCells_encodeRune])
      have HB14 := hidn hb14
      have HI4 := hidn hI4
      clear hlb hlc hb3 hI3 hq3 hb4 hb14 hI4 hI0 hb0 hI hb
      go_wp2_with fail
      refine (wrune_any B B _ sp (by have := HOK.out.1; simp only at this; omega) (by have := HOK.out.2.1; simp only at this; omega) w4 HI4.out HLC.out (Nat.le_trans (by rw [HBE.out]; exact Nat.le_refl _) HB14.out.size)).mono ?_
      rintro e w5 ⟨rfl, hA5, hb5, _⟩
      have HI5 : Lib.IsBuilderF 51 5 B B (Lib.byteCells (litL (l.take (j + 1)))) w5 := by rw [HNX.out]; exact .inr hA5
      have HB5 : Below B w1 w5 := HB14.out.trans hb5
      clear hA5 hb5
      go_wp2_with fail
      exact ⟨⟨j + 1, by omega, by go_num, HI5, HB5⟩, by simp [intOf]; omega⟩
    · have hlt2 : ¬ (j : Int) < (L : Int) := by omega
      have hjL : l.take j = l := List.take_of_length_le (by have := HL.out; omega)
      rw [hjL] at hI
      clear hjL
      go_wp2_with fail
      refine (Try.Builder_String_any_k B B _ _ hI (Nat.le_trans (by rw [HBE.out]; exact Nat.le_refl _) hb.size)).mono ?_
      rintro e w4 ⟨rfl, _, b4, _⟩
      have HB4 := hidn (hb.trans b4)
      clear b4
      go_wp2
      exact bodyPost_ret (v := .tuple #[.string ⟨(litL l).toArray⟩, .bool true]) (by simp [results, Try.results10, go_sem]) rfl ⟨rfl, b1.trans (HB4.out.mono (by rw [HBE.out]; exact b1.size))⟩
end Go.Proofs.Ytpabojmmfobbcaa
