/- Pairs: dryrotplain's Half and Told. -/
import Derived.Test.YtoopdmfijbbfdaaDoorMi
import Derived.Test.YtoopdmfijbbfdaaDoorDiskList
import Derived.Test.YtoopdmfijbbfdaaDoorDiskRot
import Derived.Test.YtoopdmfijbbfdaaDoorDiskRead
namespace Go.Proofs.YtoopdmfijbbfdaaDoor
open Go.RowKit Go.Maps
set_option linter.unusedVariables false
/-- Numbers that came in. -/
def Ils (w : World) (a : Option Addr) (len : Nat) (xs : List Int) : Prop :=
  xs.length = len ∧ len ≤ maxLen ∧ (a = none → len = 0) ∧ ∀ x, a = some x → ∀ j b, xs[j]? = some b → w.cell? (x.add j) = some (.int .i64 b)
theorem Ils.below {w w' : World} {a : Option Addr} {len : Nat} {bs : List Int} (h : Ils w a len bs) (hb : Below w.heap.size w w') : Ils w' a len bs := by
  obtain ⟨h1, h2, h3, h4⟩ := h
  refine ⟨h1, h2, h3, fun x hx j b hj => ?_⟩
  have := h4 x hx j b hj
  exact (hb.cell (block_lt_of_cell this)).trans this
theorem Ils.at {w : World} {a : Option Addr} {len j : Nat} {bs : List Int} {c : Int} (h : Ils w a len bs) (hj : bs[j]? = some c) : ∃ b off, a = some ⟨b, off, none⟩ ∧ w.cell? ⟨b, off + j, none⟩ = some (.int .i64 c) := by
  obtain ⟨h1, h2, h3, h4⟩ := h
  have hjl : j < bs.length := (List.getElem?_eq_some_iff.1 hj).1
  cases a with
  | none => have := h3 rfl; omega
  | some x =>
    obtain ⟨b, off, spot⟩ := x
    obtain ⟨c0, hc0⟩ : ∃ c0, bs[0]? = some c0 := ⟨_, List.getElem?_eq_getElem (by omega)⟩
    have hspot : spot = none := by simpa [Addr.add] using World.cell?_spot (h4 _ rfl 0 c0 hc0)
    subst hspot
    have := h4 _ rfl j c hj
    rw [add_none] at this
    exact ⟨b, off, rfl, this⟩
/-- A file whose durable bytes may be any. -/
def BadF (l : List Ext) (E : Nat) (Z : Nat → List Nat) : Prop := l.length = E ∧ ∀ j x, l[j]? = some x → x.syn = Z j ∧ x.wri = Z j ∧ x.waits = false ∧ x.ok
theorem BadF.rot {l : List Ext} {E : Nat} {Z : Nat → List Nat} (h : BadF l E Z) (j : Nat) (x : Ext) (hx : l[j]? = some x) (k m : Nat) (hk : k < 128) (hm : m < 256) : BadF (l.set j (x.rot k m)) E Z := by
  refine ⟨by rw [List.length_set]; exact h.1, fun i y hy => ?_⟩
  by_cases hi : i = j
  · subst hi
    have hl := (List.getElem?_eq_some_iff.1 hx).1
    rw [List.getElem?_set_self hl] at hy
    cases hy
    obtain ⟨a1, a2, a3, a4⟩ := h.2 i x hx
    exact ⟨a1, a2, a3, Ext.rot_ok a4 hk hm⟩
  · rw [List.getElem?_set_ne (fun e => hi e.symm)] at hy
    exact h.2 i y hy
theorem uwrapH (x : Int) : ∃ u : Nat, IntKind.u64.wrap x = (u : Int) ∧ u < 18446744073709551616 := by
  refine ⟨(IntKind.u64.wrap x).toNat, ?_, ?_⟩ <;> rw [IntKind.wrap_u64] <;> omega
theorem shr_modH (x : Int) : ∃ p : Nat, wrap64 ((IntKind.u64.wrap (x / 256)).tmod 128) = (p : Int) ∧ p < 128 := by
  have hU : 0 ≤ IntKind.u64.wrap (x / 256) := by rw [IntKind.wrap_u64]; omega
  have h1 : (IntKind.u64.wrap (x / 256)).tmod 128 = IntKind.u64.wrap (x / 256) % 128 := Int.tmod_eq_emod_of_nonneg hU
  have h2 := Int.emod_nonneg (IntKind.u64.wrap (x / 256)) (show (128 : Int) ≠ 0 by omega)
  have h3 := Int.emod_lt_of_pos (IntKind.u64.wrap (x / 256)) (show (0 : Int) < 128 by omega)
  rw [h1]
  generalize IntKind.u64.wrap (x / 256) % 128 = r at *
  refine ⟨r.toNat, ?_, by omega⟩
  unfold wrap64
  omega
def HalfPost (w : World) (d : Nat) (F : Nat → Prop) (N : Nat) (M : List UInt8 → List Ext) (free fuse : Int) (f : List UInt8) (E : Nat) (Z : Nat → List Nat) (w' : World) : Prop := ∃ l, BadF l E Z ∧ DiskOf w' d F N (upd M f l) free fuse ∧ Gr F F w w'
set_option maxHeartbeats 4000000 in
set_option maxRecDepth 100000 in
theorem half_any (w : World) (d : Nat) (F : Nat → Prop) (N : Nat) (M : List UInt8 → List Ext) (free fuse : Int) (h : DiskOf w d F N M free fuse) (f : ByteArray) (hf : f.size ≤ maxLen) (E : Nat) (hE1 : 1 ≤ E) (hE2 : E ≤ 1000) (Z : Nat → List Nat) (hb : BadF (M f.data.toList) E Z)
    (ia : Option Addr) (il ic : Nat) (xs : List Int) (hX : ∀ wr, Gr F F w wr → Ils wr ia il xs) :
    Calls Tryd.prog 23 #[.pointer (some ⟨d, 0, none⟩), .string f, .slice ia il ic] w fun e w' => e = .returned (.tuple #[]) ∧ HalfPost w d F N M free fuse f.data.toList E Z w' := by
  have hil := (hX w (Gr.refl _ _)).2.1
  unfold maxLen at hil
  have HXL := hidn (hX w (Gr.refl _ _)).1
  have HX := hidn hX
  have HLN : Hid (E = (M f.data.toList).length) := hidn hb.1.symm
  have HD := hidn h
  have HI0 : Hid (HalfPost w d F N M free fuse f.data.toList E Z w) := hidn ⟨_, hb, by rw [upd_self M _ _ rfl]; exact h, Gr.refl _ _⟩
  have hEu : IntKind.u64.wrap (E : Int) = (E : Int) := by rw [IntKind.wrap_u64]; omega
  have hE0 : ¬ ((E : Int) = 0) := by omega
  have hE0' : ¬ (E = 0) := by omega
  have hE0b : ((E : Int) == 0) = false := beq_eq_false_iff_ne.2 hE0
  clear hX hb h
  go_enter Tryd.func23, Tryd.ntmps23
  go_wp2_with fail
  refine (extents_disk _ d F N M free fuse HD.out f hf E HLN).mono ?_
  rintro e w1 ⟨rfl, rfl⟩
  go_wp2_with fail
  go_loopw [14] (fun iv wr => ∃ i : Nat, i ≤ il ∧ iv = .int .i64 (i : Int) ∧ Hid (HalfPost w1 d F N M free fuse f.data.toList E Z wr)) (fun iv _ => il - (intOf iv).toNat)
  case atStart => exact ⟨0, Nat.zero_le _, rfl, HI0⟩
  case round =>
    obtain ⟨i, hi, rfl, hI⟩ := hrel
    by_cases hlt : i < il
    · have hlt2 : (i : Int) < (il : Int) := by omega
      obtain ⟨x, hx⟩ : ∃ x, xs[i]? = some x := ⟨_, List.getElem?_eq_getElem (by rw [HXL.out]; exact hlt)⟩
      obtain ⟨l, k1, k2, k3⟩ := hI.out
      obtain ⟨xb, xo, rfl, cx⟩ := (HX.out _ k3).at hx
      clear hx
      by_cases hi40 : (40 : Int) ≤ (i : Int)
      · clear k1 k2 k3
        go_wp2_with fail
        go_end0
        exact ⟨rfl, hI.out⟩
      · obtain ⟨u, hu, hub⟩ := uwrapH x
        obtain ⟨G, hG⟩ : ∃ G, G = u % E := ⟨_, rfl⟩
        have hGE : G < E := by rw [hG]; exact Nat.mod_lt _ (by omega)
        have hGm : (u : Int).tmod (E : Int) = (G : Int) := by rw [Int.tmod_eq_emod_of_nonneg (by omega), hG]; push_cast; rfl
        have hGw : IntKind.u64.wrap (G : Int) = (G : Int) := by rw [IntKind.wrap_u64]; omega
        have hGi : IntKind.i64.wrap (G : Int) = (G : Int) := by rw [IntKind.wrap_i64]; omega
        have hGW : wrap64 (G : Int) = (G : Int) := by unfold wrap64; omega
        obtain ⟨p, hp, hp128⟩ := shr_modH x
        obtain ⟨q, hq, hq256⟩ : ∃ q : Nat, x / 65536 % 256 = (q : Int) ∧ q < 256 := ⟨(x / 65536 % 256).toNat, by omega, by omega⟩
        obtain ⟨mk, hmk⟩ : ∃ mk, mk = q ||| 1 := ⟨_, rfl⟩
        have hor : bits .or .u8 (q : Int) 1 = (mk : Int) := by rw [hmk]; exact bits_or_u .u8 rfl q 1 hq256 (by decide)
        have HMK : Hid (mk < 256) := hidn (by
          rw [hmk]
          exact Nat.or_lt_two_pow (n := 8) hq256 (by decide))
        obtain ⟨y, hy⟩ : ∃ y, l[G]? = some y := ⟨_, List.getElem?_eq_getElem (by rw [k1.1]; exact hGE)⟩
        have HY := hidn hy
        have K1 := hidn k1
        have K2 := hidn k2
        have K3 := hidn k3
        clear hG hub hmk hy k1 k2 k3 hI
        go_wp2_with fail
        have hup : upd M f.data.toList l f.data.toList = l := upd_same _ _ _
        refine (rot_some _ d F N (upd M f.data.toList l) free fuse K2.out f hf G E (G * 385) (hidn (by rw [hup]; exact K1.out.1.symm)) hGE rfl p mk hp128 HMK.out y (hidn (by rw [hup]; exact HY.out))).mono ?_
        rintro e w5 ⟨rfl, hD5, hG5⟩
        rw [hup, upd_upd] at hD5
        have HI5 : Hid (HalfPost w1 d F N M free fuse f.data.toList E Z w5) := hidn ⟨_, K1.out.rot G y HY.out p mk hp128 HMK.out, hD5, K3.out.trans hG5⟩
        clear hD5 hG5 hup
        go_wp2_with fail
        exact ⟨⟨i + 1, by omega, by go_num, HI5⟩, by simp [intOf]; omega⟩
    · have hlt2 : ¬ (i : Int) < (il : Int) := by omega
      go_wp2_with fail
      go_end0
      exact ⟨rfl, hI.out⟩
end Go.Proofs.YtoopdmfijbbfdaaDoor
