/- How many parents the footers of a small reading have. -/
import Derived.Test.YtpbicnpaldfamaaPlOpen
namespace Go.Proofs.Ytpbicnpaldfamaa
open Go.ChangeShapes Go.WideShapes Go.ChangeAt Go.RowKit
set_option linter.unusedVariables false

theorem bulk_len {H : Type} (l : List (DataW H)) : l.length ≤ Rows.uptoBulkAll l := by
  induction l with
  | nil => exact Nat.le_refl _
  | cons d r ih =>
    have : 1 ≤ Rows.uptoBulk d := by
      unfold Rows.uptoBulk
      split <;> omega
    simp only [List.length_cons, Rows.uptoBulkAll]
    omega

theorem bulk_mem {H : Type} {d : DataW H} : ∀ {l : List (DataW H)}, d ∈ l → Rows.uptoBulk d ≤ Rows.uptoBulkAll l
  | x :: r, hd => by
    simp only [Rows.uptoBulkAll]
    rcases List.mem_cons.1 hd with rfl | h
    · omega
    · have := bulk_mem h
      omega

theorem bulk_ints {H : Type} {enc : TypeId × Value → H} {W : World} {fuel : Nat} {d : DataW H} {p : List MemPlace} {a : Option Addr} {len cap : Nat}
    (hf : DataW.trod enc Try.prog W 0 (fun _ => true) true fuel 29 [.slice a len cap] = some (d, p)) : len ≤ Rows.uptoBulk d := by
  rcases Deep.open_slice Try.underlying29 hf with ⟨hcs, hx⟩ | ⟨x, l, c, m, n, D, Pl, hcs, _, hl, hm, hmm, hx, hcell⟩
  · simp at hcs
    obtain ⟨rfl, rfl, rfl⟩ := hcs
    exact Nat.zero_le _
  · simp at hcs
    obtain ⟨rfl, rfl, rfl⟩ := hcs
    simp only [Prod.mk.injEq] at hx
    rw [hx.1]
    simp only [Rows.uptoBulk]
    have := bulk_len ((List.range len).map D)
    simp at this
    omega

theorem bulk_foot {H : Type} {enc : TypeId × Value → H} {W : World} {fuel : Nat} {d : DataW H} {p : List MemPlace} {y0 y1 y2 y3 y4 y5 y6 : Value} {a : Option Addr} {len cap : Nat}
    (hf : DataW.trod enc Try.prog W 0 (fun _ => true) true fuel 31 [y0, y1, y2, y3, y4, y5, y6, .slice a len cap] = some (d, p)) : len ≤ Rows.uptoBulk d := by
  obtain ⟨xs, k, hk, hxy, _, hxl, hff⟩ := DataW.trod_struct Try.underlying31 hf
  simp only [Prod.mk.injEq] at hxy
  have hxl2 : xs.length = 8 := by simpa using hxl
  have g7 : DataW.trod enc Try.prog W 0 (fun _ => true) true k 29 (([y0, y1, y2, y3, y4, y5, y6, .slice a len cap].drop 7).take (Try.prog.cellsOf 29)) = xs[7]? := hff 7 _ rfl
  rw [show Try.prog.cellsOf 29 = 1 from by kernel_rfl] at g7
  have h7 : DataW.trod enc Try.prog W 0 (fun _ => true) true k 29 [.slice a len cap] = xs[7]? := g7
  obtain ⟨⟨x7, q7⟩, e7⟩ : ∃ x, xs[7]? = some x := ⟨xs[7]'(by omega), List.getElem?_eq_getElem (by omega)⟩
  rw [e7] at h7
  have h1 := bulk_ints h7
  rw [hxy.1]
  simp only [Rows.uptoBulk]
  have h2 := bulk_mem (d := x7) (l := xs.map (fun x => x.fst)) (List.mem_map.2 ⟨_, List.mem_of_getElem? e7, rfl⟩)
  omega

theorem bulk_foots {H : Type} {enc : TypeId × Value → H} {W : World} {fuel : Nat} {d : DataW H} {p : List MemPlace} {a : Option Addr} {len cap : Nat} {fs : List Fo}
    (hf : DataW.trod enc Try.prog W 0 (fun _ => true) true fuel 22 [.slice a len cap] = some (d, p)) (hF : Fls W a len fs) : ∀ s ∈ fs, s.pl ≤ Rows.uptoBulk d := by
  intro s hs
  obtain ⟨j, hj⟩ := List.getElem?_of_mem hs
  have hjl : j < len := by
    have := (List.getElem?_eq_some_iff.1 hj).1
    rw [hF.1] at this
    exact this
  rcases Deep.open_slice Try.underlying22 hf with ⟨hcs, hx⟩ | ⟨x, l, c, m, n, D, Pl, hcs, _, hl, hm, hmm, hx, hcell⟩
  · simp at hcs
    obtain ⟨rfl, rfl, rfl⟩ := hcs
    omega
  · simp at hcs
    obtain ⟨rfl, rfl, rfl⟩ := hcs
    have hm' : m = cap := by simpa using hmm
    subst hm'
    simp only [Prod.mk.injEq] at hx
    rw [show Try.prog.cellsOf 31 = 8 from by kernel_rfl] at hcell
    obtain ⟨cs', h1, h2⟩ := hcell j (by omega)
    obtain ⟨_, hlen, hc⟩ := World.cells?_some h1
    match cs', hlen, h2, hc with
    | [y0, y1, y2, y3, y4, y5, y6, y7], _, h2, hc =>
      have h7 : W.cell? (x.add (j * 8 + 7)) = some (.slice s.pa s.pl s.pc) := hF.2.2.2.2 x rfl j s hj 7 _ rfl
      have h8 := hc 7 (by simp)
      rw [Deep.add_add] at h8
      rw [h7] at h8
      have h9 : y7 = .slice s.pa s.pl s.pc := by simpa using h8.symm
      rw [h9] at h2
      have h3 := bulk_foot h2
      rw [hx.1]
      simp only [Rows.uptoBulk]
      have h4 := bulk_mem (d := D j) (l := (List.range len).map D) (List.mem_map.2 ⟨j, List.mem_range.2 hjl, rfl⟩)
      omega

end Go.Proofs.Ytpbicnpaldfamaa
