/- labels.Encode: a contract at every list of labels. -/
import Derived.Test.YtfgfkifdokeefaaDoorMc
import Derived.Test.YtfgfkifdokeefaaDoorLabDrawn
import Derived.Test.YtfgfkifdokeefaaDoorBytes
import Derived.Lib.FrozenHead2
namespace Go.Proofs.YtfgfkifdokeefaaDoor
open Go.RowKit
set_option linter.unusedVariables false

/-- A text's bytes, as numbers. -/
def sN (s : ByteArray) : List Nat := s.data.toList.map UInt8.toNat
def encOne (x : Lab) : List Nat := ([x.1.size] ++ sN x.1) ++ ([x.2.size] ++ sN x.2)
def encTo (ls : List Lab) : Nat → List Nat
  | 0 => [ls.length]
  | k + 1 => encTo ls k ++ encOne (labD ls k)
def encN (ls : List Lab) : List Nat := encTo ls ls.length
theorem sN_len (s : ByteArray) : (sN s).length = s.size := by unfold sN; rw [List.length_map, Lib.size_eq]
theorem sN_lt (s : ByteArray) : ∀ x ∈ sN s, x < 256 := by
  intro x hx
  unfold sN at hx
  rw [List.mem_map] at hx
  obtain ⟨c, _, rfl⟩ := hx
  exact UInt8.toNat_lt c
theorem vb_sN (s : ByteArray) : vb (sN s) = Lib.strCells s := by
  unfold vb sN Lib.strCells; rw [List.map_map]; rfl
theorem vb_append (a b : List Nat) : vb (a ++ b) = vb a ++ vb b := by simp [vb]
theorem encOne_len (x : Lab) : (encOne x).length = 2 + x.1.size + x.2.size := by unfold encOne; simp [sN_len]; omega
theorem encTo_len (ls : List Lab) (h : canOK ls = true) : ∀ k, k ≤ ls.length → (encTo ls k).length ≤ 1 + 66 * k := by
  intro k
  induction k with
  | zero => intro _; exact Nat.le_refl _
  | succ k ih =>
    intro hk
    have h1 := ih (by omega)
    obtain ⟨h2, h3⟩ := can_sizes ls h k (by omega)
    simp only [encTo, List.length_append, encOne_len]
    omega
theorem encTo_lt (ls : List Lab) (h : canOK ls = true) : ∀ k, k ≤ ls.length → ∀ x ∈ encTo ls k, x < 256 := by
  intro k
  induction k with
  | zero =>
    intro _ x hx
    have := ((canOK_iff ls).1 h).2.1
    simp [encTo] at hx; omega
  | succ k ih =>
    intro hk x hx
    obtain ⟨h2, h3⟩ := can_sizes ls h k (by omega)
    simp only [encTo, List.mem_append] at hx
    rcases hx with hx | hx
    · exact ih (by omega) x hx
    · simp only [encOne, List.mem_append, List.mem_singleton] at hx
      rcases hx with (hx | hx) | (hx | hx)
      · omega
      · exact sN_lt _ x hx
      · omega
      · exact sN_lt _ x hx
theorem bs_of_ownF {w : World} {base n : Nat} {v : Value} {zs : List Nat} (h : w.ownsRowF base 5 1 v n (vb zs)) (hz : ∀ x ∈ zs, x < 256) :
    ∃ a cap, v = .slice a n cap ∧ Bs w a n zs := by
  have h' := h
  obtain ⟨hl, h1⟩ := h
  have hn : zs.length = n := by simpa [vb] using hl
  rcases h1 with ⟨rfl, rfl⟩ | ⟨g, cap, cur, fz, rfl, hg, hh, hfz, hnc, hcm, hcs, htk⟩
  · obtain rfl : zs = [] := List.length_eq_zero_iff.1 hn
    exact ⟨none, 0, rfl, Bs.nil w⟩
  · refine ⟨_, cap, rfl, hn, by omega, hz, (fun h => by simp at h), fun x hx j hj => ?_⟩
    cases hx
    have := h'.cells (g := g) rfl j (.int .u8 ((zs.getD j 0 : Nat) : Int)) (vb_getD zs j (by omega))
    exact this

set_option maxHeartbeats 4000000 in
set_option maxRecDepth 100000 in
theorem putText_any (B n : Nat) (v : Value) (zs : List Nat) (s : ByteArray) (w : World) (h : w.ownsRowF B 5 1 v n (vb zs)) (hs : s.size ≤ 255) (hn : n ≤ 1000000) (hB : B ≤ w.heap.size) :
    Calls Tryd.prog 42 #[v, .string s] w fun e w' => ∃ v', e = .returned v' ∧ w'.ownsRowF B 5 1 v' (n + 1 + s.size) (vb (zs ++ ([s.size] ++ sN s))) ∧ Below B w w' ∧ Lib.OthersKept 5 none w w' := by
  obtain ⟨i0, hi, hz0, hz1, hz2⟩ := info_parts bInfo
  have hwr : IntKind.u8.wrap (s.size : Int) = (s.size : Int) := by rw [IntKind.wrap_u8]; omega
  go_enter Tryd.func42, Tryd.ntmps42
  go_wp2_with (at_builtin; refine wpList_append_ownF _ rfl _ _ 25 rfl B 5 i0 (.int .u8 0) 1 1 Tryd.underlying25 hi hz0 hz1 hz2 rfl (by decide) _ _ _ rfl (h.alloc _) ⟨w.heap.size, 0, none⟩ 1 1 [.int .u8 (s.size : Int)] rfl rfl ?c1 ?c2 ?c3 ?c4 ?c5 ?_)
  case c1 =>
    intro j u hj
    match j, hj with
    | 0, hj => simp at hj; subst hj; simp [Addr.add]
  case c2 => intro u hu; simp at hu; subst hu; rfl
  case c3 => unfold maxLen; omega
  case c4 => omega
  case c5 => simp; omega
  intro v1 w1 hown1 hgrow1 _
  have hs1 : w.heap.size + 1 ≤ w1.heap.size := by have := hgrow1.size; simp at this; omega
  have hb1 : Below B w w1 := ((Below.refl B w).alloc hB _).grown hgrow1 (by simp; omega) (fun k hk => (h.lt k hk).1)
  have hk1 : Lib.OthersKept 5 none w w1 := ((Lib.OthersKept.refl 5 none w).alloc _).grown hgrow1 (Lib.ownsRowF_kind (h.alloc _))
  go_wp2_with (at_builtin; refine Lib.wpList_append_own_stringF _ rfl _ _ 25 9 rfl B 5 i0 Tryd.underlying25 Tryd.underlying9 hi hz0 hz1 hz2 _ _ _ rfl hown1 s rfl ?d3 ?d4 ?d5 ?_)
  case d3 => unfold maxLen; omega
  case d4 => omega
  case d5 => omega
  intro v2 w2 hown2 hgrow2 _
  have HF : Hid (w2.ownsRowF B 5 1 v2 (n + 1 + s.size) (vb (zs ++ ([s.size] ++ sN s)))) := hidn (by
    rw [vb_append, vb_append, vb_sN]; exact hown2)
  have hb2 : Below B w w2 := hb1.grown hgrow2 (by omega) (fun k hk => (hown1.lt k hk).1)
  have hk2 : Lib.OthersKept 5 none w w2 := hk1.grown hgrow2 (Lib.ownsRowF_kind hown1)
  clear hown1 hgrow1 hown2 hgrow2
  go_wp2
  go_ret
  exact ⟨_, rfl, HF.out, hb2, hk2⟩

set_option maxHeartbeats 2000000 in
theorem enc_no (a : Option Addr) (len cap : Nat) (ls : List Lab) (w : World) (h : Ls w a len ls) (hr : len ≤ 140737488355328) (hc : canOK ls = false) :
    Calls Tryd.prog 36 #[.slice a len cap] w fun e w' => e = .returned (.tuple #[.slice none 0 0, .int .i64 1]) ∧ Below w.heap.size w w' := by
  go_enter Tryd.func36, Tryd.ntmps36
  go_wp2_with fail
  refine (can_any a len cap ls _ h hr).mono ?_
  rintro e w1 ⟨rfl, hb⟩
  rw [hc]
  go_wp2
  go_ret2
  exact ⟨rfl, hb⟩

set_option maxHeartbeats 4000000 in
set_option maxRecDepth 100000 in
theorem enc_yes (a : Option Addr) (len cap : Nat) (ls : List Lab) (w : World) (h : Ls w a len ls) (hr : len ≤ 140737488355328) (hc : canOK ls = true) :
    Calls Tryd.prog 36 #[.slice a len cap] w fun e w' => ∃ g c, e = .returned (.tuple #[.slice (some ⟨g, 0, none⟩) (encN ls).length c, .int .i64 0]) ∧ w.heap.size ≤ g ∧ (encN ls).length ≤ c ∧ c ≤ maxLen ∧ Bs w' (some ⟨g, 0, none⟩) (encN ls).length (encN ls) ∧ w'.ownsRowF w.heap.size 5 1 (.slice (some ⟨g, 0, none⟩) (encN ls).length c) (encN ls).length (vb (encN ls)) ∧ Below w.heap.size w w' := by
  have hl := hidn h.1
  have h8 := ((canOK_iff ls).1 hc).2.1
  have h0 := ((canOK_iff ls).1 hc).1
  rw [hl.out] at h8 h0
  obtain ⟨b, off, rfl, hbw, hcell⟩ := h.pos h0
  have hH := hidn h
  have hwr : IntKind.u8.wrap (len : Int) = (len : Int) := by rw [IntKind.wrap_u8]; omega
  go_enter Tryd.func36, Tryd.ntmps36
  go_wp2_with fail
  refine (can_any _ len cap ls _ h hr).mono ?_
  rintro e w1 ⟨rfl, hb1⟩
  have hc' := hidn hc
  have hsz0 : w.heap.size ≤ w1.heap.size := hb1.size
  rw [hc]
  clear h hc
  go_wp2
  go_loopw [4, 16] (fun v i wr => ∃ (k : Nat) (vv : Value), k ≤ len ∧ i = .int .i64 k ∧ v = vv ∧ wr.ownsRowF w1.heap.size 5 1 vv (encTo ls k).length (vb (encTo ls k)) ∧ w1.heap.size < wr.heap.size ∧ Below w1.heap.size w1 wr) (fun _ i wr => len - (intOf i).toNat)
  case atStart =>
    refine ⟨0, _, Nat.zero_le _, rfl, rfl, ?_, by simp, (Below.refl _ _).alloc (Nat.le_refl _) _⟩
    have := World.ownsRowF_of (World.ownsRow_lit (base := w1.heap.size) (e := 5) (size := 1) w1 #[.int .u8 (len : Int)] 1 (Nat.le_refl _) (by decide) rfl)
    simp only [encTo, hl.out]
    exact this
  case round =>
    obtain ⟨k, vv, hk, rfl, rfl, hown, hsz, hbl⟩ := hrel
    have hbl0 : Below w.heap.size w wr := hb1.trans (hbl.mono hsz0)
    by_cases hlt : k < len
    · obtain ⟨c0, c1⟩ := hcell k hlt
      have c0' : wr.cell? ⟨b, off + k * 2, none⟩ = some (.string (labD ls k).1) := (hbl0.cell (p := ⟨b, off + k * 2, none⟩) hbw).trans c0
      have c1' : wr.cell? ⟨b, off + k * 2 + 1, none⟩ = some (.string (labD ls k).2) := (hbl0.cell (p := ⟨b, off + k * 2 + 1, none⟩) hbw).trans c1
      obtain ⟨z1, z2⟩ := can_sizes ls hc'.out k (by rw [hl.out]; exact hlt)
      have hln := encTo_len ls hc'.out k (by rw [hl.out]; omega)
      have hnext : Hid (encTo ls (k + 1) = encTo ls k ++ (([(labD ls k).1.size] ++ sN (labD ls k).1) ++ ([(labD ls k).2.size] ++ sN (labD ls k).2))) := hidn rfl
      clear c0 c1
      generalize hn0 : (labD ls k).1 = n0 at *
      generalize hv0 : (labD ls k).2 = v0 at *
      generalize ht0 : encTo ls k = t0 at *
      clear hn0 hv0 ht0
      have hown0 := hown.alloc (.cells #[.string n0, .string v0] 47)
      have hq0 := alloc_at wr (.cells #[.string n0, .string v0] 47)
      have hbl2 := hbl.alloc (by omega) (.cells #[.string n0, .string v0] 47)
      have hs2 : w1.heap.size ≤ (wr.alloc (.cells #[.string n0, .string v0] 47)).heap.size := by rw [alloc_size]; omega
      go_wp2_with fail
      refine (putText_any w1.heap.size t0.length _ t0 n0 _ hown0 (by omega) (by omega) hs2).mono ?_
      rintro e W1 ⟨v1, rfl, o1, b1, k1⟩
      have hqW : W1.heap[wr.heap.size]? = some (.cells #[.string n0, .string v0] 47 (0, 0)) := k1 _ _ hq0 (fun h => by cases h) (fun c f h => by cases h)
      have c2 : W1.cell? ⟨wr.heap.size, 1, none⟩ = some (.string v0) := cell_at hqW
      have hs3 : w1.heap.size ≤ W1.heap.size := by have := b1.size; omega
      go_wp2_with fail
      refine (putText_any w1.heap.size _ _ _ v0 _ o1 (by omega) (by omega) hs3).mono ?_
      rintro e W2 ⟨v2, rfl, o2, b2, k2⟩
      have hs4 : w1.heap.size < W2.heap.size := by have := b2.size; have := b1.size; rw [alloc_size] at this; omega
      have HO : Hid (W2.ownsRowF w1.heap.size 5 1 v2 (encTo ls (k + 1)).length (vb (encTo ls (k + 1)))) := hidn (by
        rw [hnext.out]
        have e : (t0 ++ (([n0.size] ++ sN n0) ++ ([v0.size] ++ sN v0))).length = t0.length + 1 + n0.size + 1 + v0.size := by simp [sN_len]; omega
        rw [e, ← List.append_assoc]
        exact o2)
      clear o1 o2 hown hown0
      go_wp2
      exact ⟨⟨k + 1, _, by omega, by go_num, rfl, HO.out, hs4, (hbl2.trans b1).trans b2⟩, by simp [intOf]; omega⟩
    · obtain rfl : k = len := by omega
      have HEN : Hid (encTo ls k = encN ls) := hidn (by unfold encN; rw [hl.out])
      have hln := encTo_len ls hc'.out k (by rw [hl.out]; omega)
      have hpos : 0 < (encTo ls k).length := by
        have : ∀ m, 0 < (encTo ls m).length := by
          intro m; induction m with
          | zero => simp [encTo]
          | succ m ih => simp only [encTo, List.length_append]; omega
        exact this k
      have hlt := encTo_lt ls hc'.out k (by rw [hl.out]; omega)
      rw [HEN.out] at hown hpos hlt hln
      have hown' := hown
      obtain ⟨a', cap', hv, hB⟩ := bs_of_ownF hown hlt
      rcases hown.2 with ⟨_, h0⟩ | ⟨g, c, cur, fz, hvg, hg, hh, hfz, hgc, hcm, _⟩
      · omega
      subst hvg
      injection hv with e1 e2 e3
      subst e1
      clear e2 e3
      have hfin : Hid (wr.ownsRowF w.heap.size 5 1 (.slice (some ⟨g, 0, none⟩) (encN ls).length c) (encN ls).length (vb (encN ls))) := hidn (by
        refine ⟨hown'.1, ?_⟩
        rcases hown'.2 with ⟨h1, h2⟩ | ⟨g2, c2, cur, fz, hv, hg2, r⟩
        · exact .inl ⟨h1, h2⟩
        · exact .inr ⟨g2, c2, cur, fz, hv, by omega, r⟩)
      have HB := hidn hB
      clear hown hown' hB
      go_wp2
      go_ret2
      exact ⟨g, c, rfl, by omega, hgc, hcm, HB.out, hfin.out, hbl0⟩
end Go.Proofs.YtfgfkifdokeefaaDoor
