/- match: Parse at the text that awake reads; awake. -/
import Derived.Test.YtobjpofdchjciaaDoorMatF
namespace Go.Proofs.YtobjpofdchjciaaDoor
open Go.RowKit Go.Joins
set_option linter.unusedVariables false
def mvs (ms : List Mat) : List Value := (ms.map fun m => [Value.int .i64 m.k, Value.string m.n, Value.string m.v]).flatten
theorem mvs_get (l : List Mat) : ∀ (j : Nat) (m : Mat), l[j]? = some m → (mvs l)[j * 3]? = some (.int .i64 m.k) ∧ (mvs l)[j * 3 + 1]? = some (.string m.n) ∧ (mvs l)[j * 3 + 2]? = some (.string m.v) := by
  induction l with
  | nil => intro j s h; simp at h
  | cons x t ih =>
    intro j s h
    have e : mvs (x :: t) = .int .i64 x.k :: .string x.n :: .string x.v :: mvs t := rfl
    cases j with
    | zero => simp at h; subst h; rw [e]; exact ⟨rfl, rfl, rfl⟩
    | succ j =>
      have := ih j s (by simpa using h)
      rw [e, show (j + 1) * 3 = j * 3 + 3 from by omega]
      exact this
theorem mss_of_own {w : World} {base n : Nat} {v : Value} {ms : List Mat} (h : w.ownsRow base 24 3 v n (mvs ms)) (hn : ms.length = n) (hs : ∀ m ∈ ms, m.n.size ≤ maxLen ∧ m.v.size ≤ maxLen) : ∃ a c, v = .slice a n c ∧ Mss w a n ms := by
  have h' := h
  rcases h.2 with ⟨rfl, h0⟩ | ⟨g, cap, cur, rfl, hg, hh, hnc, hcm, hcs, htk⟩
  · subst h0
    exact ⟨none, 0, rfl, hn, Nat.zero_le _, fun _ => rfl, hs, fun x hx => by cases hx⟩
  · refine ⟨_, cap, rfl, hn, by omega, (fun h => by cases h), hs, fun x hx j m hm => ?_⟩
    cases hx
    obtain ⟨a1, a2, a3⟩ := mvs_get ms j m hm
    exact ⟨h'.cells (g := g) rfl _ _ a1, h'.cells (g := g) rfl _ _ a2, h'.cells (g := g) rfl _ _ a3⟩
theorem maInfo : ∃ i0 z, Tryd.prog.info? 24 = some i0 ∧ i0.zero = some z ∧ i0.size = 3 ∧ i0.bytes = 40 ∧ z.cells.size = 3 := by
  have h : (Tryd.prog.info? 24).map (fun i => (i.zero, i.size, i.bytes)) = some (some (.agg #[.int .i64 0, .string ⟨#[]⟩, .string ⟨#[]⟩]), 3, 40) := by kernel_rfl
  cases hi : Tryd.prog.info? 24 with
  | none => rw [hi] at h; cases h
  | some i0 =>
    rw [hi] at h
    simp only [Option.map_some, Option.some.injEq, Prod.mk.injEq] at h
    exact ⟨i0, _, rfl, h.1, h.2.1, h.2.2, rfl⟩
/-- What is left of the text, and what was taken, behind j matchers. -/
def restA (j : Nat) : ByteArray := if j = 0 then R0 else if j = 1 then R1 else ⟨#[125]⟩
def behA (j : Nat) : ByteArray := if j = 0 then ⟨#[44, 98, 33, 126, 34, 121, 46, 42, 34, 125]⟩ else ⟨#[125]⟩
def matA (j : Nat) : Mat := if j = 0 then ⟨1, ⟨#[97]⟩, ⟨#[120]⟩⟩ else ⟨4, ⟨#[98]⟩, ⟨#[121, 46, 42]⟩⟩
theorem tmA (j : Nat) (hj : j < 2) (w : World) (ht : SignTab w) : Calls Tryd.prog 27 #[.string (restA j)] w fun e w' => e = .returned (.tuple #[.agg #[.int .i64 (matA j).k, .string (matA j).n, .string (matA j).v], .string (behA j), .bool true]) ∧ Below w.heap.size w w' := by
  match j, hj with
  | 0, _ => exact tm0 w ht
  | 1, _ => exact tm1 w ht
theorem cutA (j : Nat) (hj : j < 2) (w : World) : Calls Tryd.prog 26 #[.string (behA j), .string ⟨#[44]⟩] w fun e w' => e = .returned (.tuple #[.string (restA (j + 1)), .bool (decide (j + 1 < 2))]) ∧ w' = w := by
  refine (cutC (behA j) ⟨#[44]⟩ w).mono ?_
  rintro e w1 ⟨rfl, rfl⟩
  match j, hj with
  | 0, _ => exact ⟨rfl, rfl⟩
  | 1, _ => exact ⟨rfl, rfl⟩
theorem cutB (w : World) : Calls Tryd.prog 26 #[.string ⟨#[123, 97, 61, 34, 120, 34, 44, 98, 33, 126, 34, 121, 46, 42, 34, 125]⟩, .string ⟨#[123]⟩] w fun e w' => e = .returned (.tuple #[.string (restA 0), .bool true]) ∧ w' = w := by
  refine (cutC ⟨#[123, 97, 61, 34, 120, 34, 44, 98, 33, 126, 34, 121, 46, 42, 34, 125]⟩ ⟨#[123]⟩ w).mono ?_
  rintro e w1 ⟨rfl, rfl⟩
  exact ⟨rfl, rfl⟩
set_option maxHeartbeats 2000000 in
set_option maxRecDepth 100000 in
theorem parse_aw (w : World) (ht : SignTab w) :
    Calls Tryd.prog 17 #[.string ⟨#[123, 97, 61, 34, 120, 34, 44, 98, 33, 126, 34, 121, 46, 42, 34, 125]⟩] w fun e w' => ∃ a c, e = .returned (.tuple #[.slice a 2 c, .int .i64 0]) ∧ Mss w' a 2 awM ∧ Below w.heap.size w w' := by
  obtain ⟨i0, z, hi, hz, hzs, hby, hzc⟩ := maInfo
  go_enter Tryd.func17, Tryd.ntmps17
  go_wp2_with fail
  refine (cutB _).mono ?_
  rintro e w1 ⟨rfl, rfl⟩
  go_wp2_with fail
  go_loopw [4, 5, 6] (fun rv mv lv wr => ∃ (j : Nat) (v : Value), j ≤ 2 ∧ rv = .string (restA j) ∧ mv = .bool (decide (j < 2)) ∧ lv = v ∧ wr.ownsRow w1.heap.size 24 3 v j (mvs (awM.take j)) ∧ Below w1.heap.size w1 wr) (fun _ _ lv _ => match lv with | .slice _ l _ => 2 - l | _ => 0)
  case atStart => exact ⟨0, _, by omega, rfl, rfl, rfl, World.ownsRow_nil _ _ _ _, Below.refl _ _⟩
  case round =>
    obtain ⟨j, v, hj, rfl, rfl, rfl, hown, hb⟩ := hrel
    obtain ⟨sa, sc, hsv⟩ : ∃ sa sc, u6 = .slice sa j sc := by
      rcases hown.2 with ⟨h1, h2⟩ | ⟨g, cap, cur, h1, _⟩
      · exact ⟨none, 0, by rw [h1, h2]⟩
      · exact ⟨_, _, h1⟩
    subst hsv
    by_cases hlt : j < 2
    · have hd : decide (j < 2) = true := decide_eq_true hlt
      have hnext : Hid (mvs (awM.take (j + 1)) = mvs (awM.take j) ++ [.int .i64 (matA j).k, .string (matA j).n, .string (matA j).v]) := hidn (by
        match j, hlt with
        | 0, _ => rfl
        | 1, _ => rfl)
      have HT := hidn (tmA j hlt wr (ht.below hb))
      have HCU := hidn (cutA j hlt)
      generalize restA j = Rj at *
      generalize behA j = Bj at *
      generalize matA j = Mj at *
      obtain ⟨mk, mn, mv⟩ := Mj
      simp only at hnext HT
      obtain ⟨dn, hdn⟩ : ∃ dn, dn = decide (j + 1 < 2) := ⟨_, rfl⟩
      obtain ⟨Rn, hRn⟩ : ∃ Rn, Rn = restA (j + 1) := ⟨_, rfl⟩
      rw [← hdn, ← hRn] at HCU
      have HDN := hidn hdn
      have HRN := hidn hRn
      rw [hd]
      clear hd hdn hRn
      go_wp2_with fail
      refine HT.out.mono ?_
      rintro e w2 ⟨rfl, b2⟩
      have B2 := hb.trans (b2.mono hb.size)
      have own2 := own_belowS hown b2
      have own3 := own_belowS own2 ((Below.refl _ w2).alloc (Nat.le_refl _) (.cells #[.int .i64 mk, .string mn, .string mv] 24))
      have own4 := own_belowS own3 ((Below.refl _ _).alloc (Nat.le_refl _) (.cells #[.int .i64 mk, .string mn, .string mv] 24))
      have hs2 : w1.heap.size ≤ w2.heap.size := B2.size
      clear own2 hown
      go_wp2_with (at_builtin; refine wpList_append_own _ rfl _ _ 27 rfl w1.heap.size 24 i0 z 3 40 Tryd.underlying27 hi hz hzs hby hzc (by decide) _ j (mvs (awM.take j)) rfl own4 ⟨w2.heap.size + 1, 0, none⟩ 1 1 [.int .i64 mk, .string mn, .string mv] rfl rfl ?c1 ?c2 ?c3 ?c4 ?c5 ?_)
      case c1 =>
        intro i u hi
        match i, hi with
        | 0, hi => simp at hi; subst hi; simp [Addr.add]
        | 1, hi => simp at hi; subst hi; simp [Addr.add]
        | 2, hi => simp at hi; subst hi; simp [Addr.add]
      case c2 =>
        intro u hu
        simp at hu
        rcases hu with rfl | rfl | rfl <;> rfl
      case c3 => unfold maxLen; omega
      case c4 => omega
      case c5 => simp; omega
      intro v' w3 own5 hgrow3 _
      have B3 : Below w1.heap.size w1 w3 := ((B2.alloc hs2 _).alloc (by simp; omega) _).grown hgrow3 (by simp; omega) (fun k hk => (own4.lt k hk).1)
      have HO : Hid (w3.ownsRow w1.heap.size 24 3 v' (j + 1) (mvs (awM.take (j + 1)))) := hidn (by rw [hnext.out]; exact own5)
      obtain ⟨ar3, cr3, hv3⟩ : ∃ ar cr, v' = .slice ar (j + 1) cr := by
        rcases HO.out.2 with ⟨h1, h2⟩ | ⟨g, cap, cur, h1, _⟩
        · omega
        · exact ⟨_, _, h1⟩
      subst hv3
      clear own3 own4 own5 hgrow3
      go_wp2_with fail
      refine (HCU.out _).mono ?_
      rintro e w4 ⟨rfl, rfl⟩
      go_wp2_with fail
      exact ⟨⟨j + 1, _, by omega, by rw [HRN.out], by rw [HDN.out], rfl, HO.out, B3⟩, by show 2 - (j + 1) < 2 - j; omega⟩
    · obtain rfl : j = 2 := by omega
      have hd : decide (2 < 2) = false := rfl
      have hm : awM.take 2 = awM := rfl
      rw [hm] at hown
      obtain ⟨a, c, hac, hms⟩ := mss_of_own hown rfl (fun m hm => by
        simp only [awM, List.mem_cons, List.not_mem_nil, or_false] at hm
        rcases hm with rfl | rfl <;> exact ⟨by decide, by decide⟩)
      cases hac
      have hr2 : restA 2 = ⟨#[125]⟩ := rfl
      rw [hr2, hd]
      go_wp2_with fail
      refine (canM_any sa 2 sc awM _ hms).mono ?_
      rintro e w2 ⟨rfl, b2⟩
      rw [awM_can]
      have B2 := hb.trans (b2.mono hb.size)
      have hms2 := hms.below b2
      go_wp2_with fail
      exact bodyPost_ret (v := .tuple #[.slice sa 2 sc, .int .i64 0]) (by simp [results, Tryd.results17, go_sem]) rfl ⟨_, _, rfl, hms2, B2⟩
end Go.Proofs.YtobjpofdchjciaaDoor
