/- BlockFeet: the law's walk. -/
import Derived.Test.YtfgfkifdokeefaaDoorFtH
import Derived.Test.YtfgfkifdokeefaaDoorFtD
namespace Go.Proofs.YtfgfkifdokeefaaDoor
open Go.RowKit Go.Joins
open Cd (BitsTab DbTab)
set_option linter.unusedVariables false

theorem wpList_load_roww {P : Program} {ops : Array Oper} {rest : List Oper} {o : Oper} {a : Act} {w : World} {Q : Exit → Act → World → Prop} (hw : Region.wanted o (yielded ops a.tmps) = true) (ty : TypeId) (x : Operand) (ho : o.op = .load ty x)
    (g : Nat) (hx : a.eval x = .pointer (some ⟨g, 0, none⟩)) (t : TypeId) (cs : Array Value) (fr : Nat × Nat) (d : TypeDesc) (hg : w.heap[g]? = some (.cells cs t fr))
    (hu : P.underlying ty = some d) (hd : (match d with | .struct _ | .array _ _ => true | _ => false) = true) (hi : (P.info? ty).map (·.size) = some cs.size)
    (h : wpList P ops Q rest (a.put o.dst (.agg cs)) w) : wpList P ops Q (o :: rest) a w :=
  wpList_step fun K hK => by
    simp only [hw, if_true]
    exact wp_load_row ty x ho g hx t cs fr d hg hu hd hi (hK _ _ h)

/-- What Encode tells: the bytes, or none, and its answer. -/
def ftX (n g l r mn mx by' : Int) (ps : List Int) : List Nat := if bCan n g l r mn mx by' ps then ftB n g l r mn mx by' ps else []

def ftG (n g l r mn mx by' : Int) (ps : List Int) : Int := if bCan n g l r mn mx by' ps then 0 else 1

theorem ftX_len (n g l r mn mx by' : Int) (ps : List Int) : (ftX n g l r mn mx by' ps).length ≤ 81 := by
  unfold ftX
  by_cases hc : bCan n g l r mn mx by' ps = true
  · rw [if_pos hc, ftB_length]
    have := bPa_len hc
    omega
  · rw [if_neg hc]
    exact Nat.zero_le _

theorem ft_roomed {w : World} {base n : Nat} {v : Value} {zs : List Nat} (h : w.ownsRow base 5 1 v n (vb zs)) (hz : ∀ x ∈ zs, x < 256) :
    ∃ a cap, v = .slice a n cap ∧ Bs w a n zs ∧ n ≤ cap := by
  obtain ⟨a, cap, rfl, hb⟩ := bs_of_own h hz
  refine ⟨a, cap, rfl, hb, ?_⟩
  rcases h.2 with ⟨h1, h2⟩ | ⟨g, cp, cur, hv, hg, hh, hnc, r⟩
  · omega
  · cases hv
    exact hnc


theorem enc_tot (w : World) (n g l r mn mx by' : Int) (a : Option Addr) (len cap : Nat) (ps : List Int) (h : Ils w a len ps) :
    Calls Tryd.prog 4 #[.agg #[.int .i64 n, .int .i64 g, .int .i64 l, .int .i64 r, .int .i64 mn, .int .i64 mx, .int .i64 by', .slice a len cap]] w fun e w' => ∃ xa xc, e = .returned (.tuple #[.slice xa (ftX n g l r mn mx by' ps).length xc, .int .i64 (ftG n g l r mn mx by' ps)]) ∧ Bs w' xa (ftX n g l r mn mx by' ps).length (ftX n g l r mn mx by' ps) ∧ (ftX n g l r mn mx by' ps).length ≤ xc ∧ Below w.heap.size w w' := by
  by_cases hc : bCan n g l r mn mx by' ps = true
  · refine (ftEnc_yes w n g l r mn mx by' a len cap ps h hc).mono ?_
    rintro e w' ⟨v, rfl, ho, hb⟩
    obtain ⟨xa, xc, rfl, hB, hle⟩ := ft_roomed ho (ftB_lt n g l r mn mx by' ps)
    have hx : ftX n g l r mn mx by' ps = ftB n g l r mn mx by' ps := by unfold ftX; rw [if_pos hc]
    have hg : ftG n g l r mn mx by' ps = 0 := by unfold ftG; rw [if_pos hc]
    have hl : (ftB n g l r mn mx by' ps).length = 57 + 8 * len := by rw [ftB_length, h.1]
    rw [hx, hg, hl]
    exact ⟨xa, xc, rfl, hB, hle, hb⟩
  · have hc2 : bCan n g l r mn mx by' ps = false := by simpa using hc
    refine (ftEnc_no w n g l r mn mx by' a len cap ps h hc2).mono ?_
    rintro e w' ⟨rfl, hb⟩
    have hx : ftX n g l r mn mx by' ps = [] := by unfold ftX; rw [if_neg hc]
    have hg : ftG n g l r mn mx by' ps = 1 := by unfold ftG; rw [if_neg hc]
    rw [hx, hg]
    exact ⟨none, 0, rfl, ⟨rfl, Nat.zero_le _, (fun x hx => by cases hx), fun _ => rfl, fun x hx => by cases hx⟩, Nat.le_refl _, hb⟩


theorem renc_tot (w : World) (n g l r mn mx by' : Int) (a : Option Addr) (len cap : Nat) (ps : List Int) (h : Ils w a len ps) :
    Calls Tryd.prog 5 #[.agg #[.int .i64 n, .int .i64 g, .int .i64 l, .int .i64 r, .int .i64 mn, .int .i64 mx, .int .i64 by', .slice a len cap]] w fun e w' => ∃ xa xc, e = .returned (.tuple #[.slice xa (ftX n g l r mn mx by' ps).length xc, .int .i64 (ftG n g l r mn mx by' ps)]) ∧ Bs w' xa (ftX n g l r mn mx by' ps).length (ftX n g l r mn mx by' ps) ∧ (ftX n g l r mn mx by' ps).length ≤ xc ∧ Below w.heap.size w w' := by
  by_cases hc : bCan n g l r mn mx by' ps = true
  · refine (ftRenc_yes w n g l r mn mx by' a len cap ps h hc).mono ?_
    rintro e w' ⟨v, rfl, ho, hb⟩
    obtain ⟨xa, xc, rfl, hB, hle⟩ := ft_roomed ho (ftB_lt n g l r mn mx by' ps)
    have hx : ftX n g l r mn mx by' ps = ftB n g l r mn mx by' ps := by unfold ftX; rw [if_pos hc]
    have hg : ftG n g l r mn mx by' ps = 0 := by unfold ftG; rw [if_pos hc]
    have hl : (ftB n g l r mn mx by' ps).length = 57 + 8 * len := by rw [ftB_length, h.1]
    rw [hx, hg, hl]
    exact ⟨xa, xc, rfl, hB, hle, hb⟩
  · have hc2 : bCan n g l r mn mx by' ps = false := by simpa using hc
    refine (ftRenc_no w n g l r mn mx by' a len cap ps h hc2).mono ?_
    rintro e w' ⟨rfl, hb⟩
    have hx : ftX n g l r mn mx by' ps = [] := by unfold ftX; rw [if_neg hc]
    have hg : ftG n g l r mn mx by' ps = 1 := by unfold ftG; rw [if_neg hc]
    rw [hx, hg]
    exact ⟨none, 0, rfl, ⟨rfl, Nat.zero_le _, (fun x hx => by cases hx), fun _ => rfl, fun x hx => by cases hx⟩, Nat.le_refl _, hb⟩


theorem ftX_back (n g l r mn mx by' : Int) (ps : List Int) (hc : bCan n g l r mn mx by' ps = true) (hb : ∀ q ∈ [n, g, l, r, mn, mx, by'], B63 q) (hbp : ∀ q ∈ ps, B63 q) :
    ftOK (ftX n g l r mn mx by' ps) (ftX n g l r mn mx by' ps).length = true := by
  have hx : ftX n g l r mn mx by' ps = ftB n g l r mn mx by' ps := by unfold ftX; rw [if_pos hc]
  have hp := bPa_len hc
  rw [hx, ftOK_yes ⟨by rw [ftB_length]; omega, by rw [ftB_length, ftB_ftN n g l r mn mx by' ps hp]⟩, ftB_can n g l r mn mx by' ps hp hb hbp]
  exact hc


set_option maxHeartbeats 8000000 in
set_option maxRecDepth 100000 in
theorem blockFeet_walk (n g l r mn mx by' : Int) (a : Option Addr) (len cap : Nat) (ps : List Int) (b : Option Addr) (blen bcap : Nat) (zs : List Nat) (w : World) (h : Ils w a len ps) (hbn : ∀ q ∈ [n, g, l, r, mn, mx, by'], B63 q) (hbp : ∀ q ∈ ps, B63 q) (hB : Bs w b blen zs) (hbc : blen ≤ bcap) (hT : BitsTab w) (hD : DbTab w) :
    Calls Tryd.prog 3 #[.agg #[.int .i64 n, .int .i64 g, .int .i64 l, .int .i64 r, .int .i64 mn, .int .i64 mx, .int .i64 by', .slice a len cap], .slice b blen bcap] w fun e w' => e = .returned (.bool true) ∧ Below w.heap.size w w' := by
  obtain ⟨wA, hwA⟩ : ∃ wA, wA = w.alloc (.cells #[.int .i64 n, .int .i64 g, .int .i64 l, .int .i64 r, .int .i64 mn, .int .i64 mx, .int .i64 by', .slice a len cap] 24) := ⟨_, rfl⟩
  have bA : Below w.heap.size w wA := by rw [hwA]; exact ft_below1 w _
  have sA : w.heap.size < wA.heap.size := by rw [hwA, World.size_alloc]; omega
  have qA : wA.heap[w.heap.size]? = some (.cells #[.int .i64 n, .int .i64 g, .int .i64 l, .int .i64 r, .int .i64 mn, .int .i64 mx, .int .i64 by', .slice a len cap] 24 (0, 0)) := by rw [hwA]; exact heap_alloc_new w _
  have hE1 := enc_tot wA n g l r mn mx by' a len cap ps (h.below bA)
  have hE2 := fun w2 (bb : Below w.heap.size w w2) => renc_tot w2 n g l r mn mx by' a len cap ps (h.below bb)
  have hK : ∀ X : List Nat, X = ftX n g l r mn mx by' ps → bCan n g l r mn mx by' ps = true → ftOK X X.length = true ∧ (ftV X X.length 0 = n ∧ ftV X X.length 1 = g ∧ ftV X X.length 2 = l ∧ ftV X X.length 3 = r ∧ ftV X X.length 4 = mn ∧ ftV X X.length 5 = mx ∧ ftV X X.length 6 = by' ∧ ftP X X.length = len ∧ ftE X X.length = 0 ∧ ftL X X.length = ps) := by
    rintro X rfl hc
    have hk := ftX_back n g l r mn mx by' ps hc hbn hbp
    have hx : ftX n g l r mn mx by' ps = ftB n g l r mn mx by' ps := by unfold ftX; rw [if_pos hc]
    have hp := bPa_len hc
    unfold ftV ftP ftE ftL
    simp only [hk, if_true]
    rw [hx, ftB_rest, ftB_ftN n g l r mn mx by' ps hp, mNs_words ps hbp, h.1]
    exact ⟨trivial, ftB_mN n g l r mn mx by' ps 0 n rfl (hbn _ (by simp)), ftB_mN n g l r mn mx by' ps 1 g rfl (hbn _ (by simp)), ftB_mN n g l r mn mx by' ps 2 l rfl (hbn _ (by simp)), ftB_mN n g l r mn mx by' ps 3 r rfl (hbn _ (by simp)), ftB_mN n g l r mn mx by' ps 4 mn rfl (hbn _ (by simp)), ftB_mN n g l r mn mx by' ps 5 mx rfl (hbn _ (by simp)), ftB_mN n g l r mn mx by' ps 6 by' rfl (hbn _ (by simp)), rfl, trivial, rfl⟩
  have hGc : ∀ G : Int, G = ftG n g l r mn mx by' ps → (bCan n g l r mn mx by' ps = true → G = 0) ∧ (bCan n g l r mn mx by' ps = false → G = 1) := by
    rintro G rfl
    unfold ftG
    exact ⟨fun hc => by rw [if_pos hc], fun hc => by rw [if_neg (by rw [hc]; decide)]⟩
  have hxl := ftX_len n g l r mn mx by' ps
  obtain ⟨X, hX⟩ : ∃ X, X = ftX n g l r mn mx by' ps := ⟨_, rfl⟩
  obtain ⟨G, hG⟩ : ∃ G, G = ftG n g l r mn mx by' ps := ⟨_, rfl⟩
  have HK := hidn (hK X hX)
  have HGc := hidn (hGc G hG)
  rw [← hX, ← hG] at hE1
  rw [← hX] at hxl
  have hE2' : ∀ w2, Below w.heap.size w w2 → Calls Tryd.prog 5 #[.agg #[.int .i64 n, .int .i64 g, .int .i64 l, .int .i64 r, .int .i64 mn, .int .i64 mx, .int .i64 by', .slice a len cap]] w2 fun e w' => ∃ xa xc, e = .returned (.tuple #[.slice xa X.length xc, .int .i64 G]) ∧ Bs w' xa X.length X ∧ X.length ≤ xc ∧ Below w2.heap.size w2 w' := by
    intro w2 bb
    rw [hX, hG]
    exact hE2 w2 bb
  clear hE2 hK hGc hX hG
  obtain ⟨y0, hy0⟩ : ∃ y, y = ftV zs blen 0 := ⟨_, rfl⟩
  obtain ⟨y1, hy1⟩ : ∃ y, y = ftV zs blen 1 := ⟨_, rfl⟩
  obtain ⟨y2, hy2⟩ : ∃ y, y = ftV zs blen 2 := ⟨_, rfl⟩
  obtain ⟨y3, hy3⟩ : ∃ y, y = ftV zs blen 3 := ⟨_, rfl⟩
  obtain ⟨y4, hy4⟩ : ∃ y, y = ftV zs blen 4 := ⟨_, rfl⟩
  obtain ⟨y5, hy5⟩ : ∃ y, y = ftV zs blen 5 := ⟨_, rfl⟩
  obtain ⟨y6, hy6⟩ : ∃ y, y = ftV zs blen 6 := ⟨_, rfl⟩
  obtain ⟨P, hP⟩ : ∃ P, P = ftP zs blen := ⟨_, rfl⟩
  obtain ⟨E, hE⟩ : ∃ E, E = ftE zs blen := ⟨_, rfl⟩
  obtain ⟨Q, hQ⟩ : ∃ Q, Q = ftL zs blen := ⟨_, rfl⟩
  have hD1 : ∀ w2, Below w.heap.size w w2 → Calls Tryd.prog 6 #[.slice b blen bcap] w2 fun e w' => ∃ a c, e = .returned (.tuple #[.agg #[.int .i64 y0, .int .i64 y1, .int .i64 y2, .int .i64 y3, .int .i64 y4, .int .i64 y5, .int .i64 y6, .slice a P c], .int .i64 E]) ∧ Ils w' a P Q ∧ Below w2.heap.size w2 w' := by
    intro w2 bb
    rw [hy0, hy1, hy2, hy3, hy4, hy5, hy6, hP, hE, hQ]
    exact (dec_tot w2 b blen bcap zs (hB.below bb) hbc).mono fun e w' hd => tot_one hd
  have hD2 : ∀ w2, Below w.heap.size w w2 → Calls Tryd.prog 7 #[.slice b blen bcap] w2 fun e w' => ∃ a c, e = .returned (.tuple #[.agg #[.int .i64 y0, .int .i64 y1, .int .i64 y2, .int .i64 y3, .int .i64 y4, .int .i64 y5, .int .i64 y6, .slice a P c], .int .i64 E]) ∧ Ils w' a P Q ∧ Below w2.heap.size w2 w' := by
    intro w2 bb
    rw [hy0, hy1, hy2, hy3, hy4, hy5, hy6, hP, hE, hQ]
    exact (rdec_tot w2 b blen bcap zs (hB.below bb) hbc).mono fun e w' hd => tot_one hd
  clear hy0 hy1 hy2 hy3 hy4 hy5 hy6 hP hE hQ
  obtain ⟨u0, hu0⟩ : ∃ y, y = ftV X X.length 0 := ⟨_, rfl⟩
  obtain ⟨u1, hu1⟩ : ∃ y, y = ftV X X.length 1 := ⟨_, rfl⟩
  obtain ⟨u2, hu2⟩ : ∃ y, y = ftV X X.length 2 := ⟨_, rfl⟩
  obtain ⟨u3, hu3⟩ : ∃ y, y = ftV X X.length 3 := ⟨_, rfl⟩
  obtain ⟨u4, hu4⟩ : ∃ y, y = ftV X X.length 4 := ⟨_, rfl⟩
  obtain ⟨u5, hu5⟩ : ∃ y, y = ftV X X.length 5 := ⟨_, rfl⟩
  obtain ⟨u6, hu6⟩ : ∃ y, y = ftV X X.length 6 := ⟨_, rfl⟩
  obtain ⟨P2, hP2⟩ : ∃ P, P = ftP X X.length := ⟨_, rfl⟩
  obtain ⟨E2, hE2⟩ : ∃ E, E = ftE X X.length := ⟨_, rfl⟩
  obtain ⟨Q2, hQ2⟩ : ∃ Q, Q = ftL X X.length := ⟨_, rfl⟩
  have hD3 : ∀ w2 xa xc, Bs w2 xa X.length X → X.length ≤ xc → Calls Tryd.prog 6 #[.slice xa X.length xc] w2 fun e w' => ∃ a c, e = .returned (.tuple #[.agg #[.int .i64 u0, .int .i64 u1, .int .i64 u2, .int .i64 u3, .int .i64 u4, .int .i64 u5, .int .i64 u6, .slice a P2 c], .int .i64 E2]) ∧ Ils w' a P2 Q2 ∧ Below w2.heap.size w2 w' := by
    intro w2 xa xc hx hxc
    rw [hu0, hu1, hu2, hu3, hu4, hu5, hu6, hP2, hE2, hQ2]
    exact (dec_tot w2 xa X.length xc X hx hxc).mono fun e w' hd => tot_one hd
  have HK2 : Hid (bCan n g l r mn mx by' ps = true → u0 = n ∧ u1 = g ∧ u2 = l ∧ u3 = r ∧ u4 = mn ∧ u5 = mx ∧ u6 = by' ∧ P2 = len ∧ E2 = 0 ∧ Q2 = ps) := hidn (fun hc => by
    rw [hu0, hu1, hu2, hu3, hu4, hu5, hu6, hP2, hE2, hQ2]
    exact (HK.out hc).2)
  clear hu0 hu1 hu2 hu3 hu4 hu5 hu6 hP2 hE2 hQ2 HK
  obtain ⟨x, hx⟩ : ∃ x, x = X.length := ⟨_, rfl⟩
  rw [← hx] at hE1 hxl
  rw [← hx] at hE2'
  rw [← hx] at hD3
  have hGG : (G != G) = false := by simp
  have hEE : (E != E) = false := by simp
  have HXL := hidn hxl
  have H1 := hidn hE1
  have H2 := hidn hE2'
  have H3 := hidn hD1
  have H4 := hidn hD2
  have H7 := hidn hD3
  have H := hidn h
  have HWA := hidn hwA
  have HQA := hidn qA
  have HSA := hidn sA
  have HBA := hidn bA
  have HT := hidn hT
  have HDB := hidn hD
  clear hE1 hE2' hD1 hD2 hD3 h hwA qA sA bA hT hD hB hbc hbn hbp hx hxl
  go_enter Tryd.func3, Tryd.ntmps3
  go_wp2_with fail
  rw [← HWA.out]
  refine H1.out.mono ?_
  rintro e w1 ⟨xa, xc, rfl, hx1, hxc, b1⟩
  have HB1 : Hid (Below w.heap.size w w1) := hidn (HBA.out.trans (b1.mono HBA.out.size))
  have HR1 : Hid (w1.heap[w.heap.size]? = some (.cells #[.int .i64 n, .int .i64 g, .int .i64 l, .int .i64 r, .int .i64 mn, .int .i64 mx, .int .i64 by', .slice a len cap] 24 (0, 0))) := hidn ((b1.block w.heap.size HSA.out).trans HQA.out)
  have HX1 := hidn hx1
  have HXC := hidn hxc
  clear hx1 hxc b1
  simp only []
  go_at_K
  repeat (first
    | (with_reducible refine wpList_load_row (by rfl) 24 (.tmp 2) (by rfl) w.heap.size (by kernel_rfl) 24 #[.int .i64 n, .int .i64 g, .int .i64 l, .int .i64 r, .int .i64 mn, .int .i64 mx, .int .i64 by', .slice a len cap] (0, 0) _ HR1.out Tryd.underlying24 rfl (by kernel_rfl) ?_)
    | go_values | go_skip | go_guarded | go_step | go_upon)
  refine (H2.out w1 HB1.out).mono ?_
  rintro e w2 ⟨ya, yc, rfl, hy2, hyc, b2⟩
  have HB2 : Hid (Below w.heap.size w w2) := hidn (HB1.out.trans (b2.mono HB1.out.size))
  have HR2 : Hid (w2.heap[w.heap.size]? = some (.cells #[.int .i64 n, .int .i64 g, .int .i64 l, .int .i64 r, .int .i64 mn, .int .i64 mx, .int .i64 by', .slice a len cap] 24 (0, 0))) := hidn ((b2.block w.heap.size (Array.getElem?_eq_some_iff.1 HR1.out).1).trans HR1.out)
  have HX2 := hidn (HX1.out.below b2)
  have HY2 := hidn hy2
  clear hy2 hyc b2
  simp only []
  go_at_K
  repeat (first
    | go_values | go_skip | go_guarded | go_step | go_upon)
  refine (H3.out w2 HB2.out).mono ?_
  rintro e w3 ⟨pa, pc, rfl, hp3, b3⟩
  have HS3 : Hid ((w3.alloc (.cells #[.int .i64 0, .int .i64 0, .int .i64 0, .int .i64 0, .int .i64 0, .int .i64 0, .int .i64 0, .slice none 0 0] 24)).heap[w3.heap.size]? = some (.cells #[.int .i64 0, .int .i64 0, .int .i64 0, .int .i64 0, .int .i64 0, .int .i64 0, .int .i64 0, .slice none 0 0] 24 (0, 0))) := hidn (heap_alloc_new w3 _)
  obtain ⟨w3s, hw3s⟩ : ∃ q, q = (w3.alloc (.cells #[.int .i64 0, .int .i64 0, .int .i64 0, .int .i64 0, .int .i64 0, .int .i64 0, .int .i64 0, .slice none 0 0] 24)).setRow w3.heap.size #[.int .i64 y0, .int .i64 y1, .int .i64 y2, .int .i64 y3, .int .i64 y4, .int .i64 y5, .int .i64 y6, .slice pa P pc] := ⟨_, rfl⟩
  have HW3 := hidn hw3s
  have HBs3 : Hid (Below w3.heap.size w3 w3s) := hidn (by rw [hw3s]; exact below_setRow (ft_below1 w3 _) (Nat.le_refl _) _)
  have HP3 : Hid (w3s.heap[w3.heap.size]? = some (.cells #[.int .i64 y0, .int .i64 y1, .int .i64 y2, .int .i64 y3, .int .i64 y4, .int .i64 y5, .int .i64 y6, .slice pa P pc] 24 (0, 0))) := hidn (by rw [hw3s]; exact setRow_heap _ _ _ _ _ _ (heap_alloc_new w3 _))
  clear hw3s
  have HB3 : Hid (Below w.heap.size w w3s) := hidn (HB2.out.trans ((b3.trans (HBs3.out.mono b3.size)).mono HB2.out.size))
  have HR3 : Hid (w3s.heap[w.heap.size]? = some (.cells #[.int .i64 n, .int .i64 g, .int .i64 l, .int .i64 r, .int .i64 mn, .int .i64 mx, .int .i64 by', .slice a len cap] 24 (0, 0))) := hidn (((b3.trans (HBs3.out.mono b3.size)).block w.heap.size (Array.getElem?_eq_some_iff.1 HR2.out).1).trans HR2.out)
  have HX3 := hidn (HX2.out.below (b3.trans (HBs3.out.mono b3.size)))
  have HY3 := hidn (HY2.out.below (b3.trans (HBs3.out.mono b3.size)))
  have HI3 := hidn (hp3.below HBs3.out)
  clear hp3 b3
  simp only []
  go_at_K
  repeat (first
    | (with_reducible refine wpList_store_row (by rfl) 24 (.tmp 9) (.tmp 28) (by rfl) w3.heap.size #[.int .i64 y0, .int .i64 y1, .int .i64 y2, .int .i64 y3, .int .i64 y4, .int .i64 y5, .int .i64 y6, .slice pa P pc] (by kernel_rfl) (by kernel_rfl) 24 #[.int .i64 0, .int .i64 0, .int .i64 0, .int .i64 0, .int .i64 0, .int .i64 0, .int .i64 0, .slice none 0 0] HS3.out (by kernel_rfl) (by kernel_rfl) (by kernel_rfl) ?_)
    | go_values | go_skip | go_guarded | go_step | go_upon)
  rw [← HW3.out]
  refine (H4.out w3s HB3.out).mono ?_
  rintro e w4 ⟨qa, qc, rfl, hq4, b4⟩
  have HS4 : Hid ((w4.alloc (.cells #[.int .i64 0, .int .i64 0, .int .i64 0, .int .i64 0, .int .i64 0, .int .i64 0, .int .i64 0, .slice none 0 0] 24)).heap[w4.heap.size]? = some (.cells #[.int .i64 0, .int .i64 0, .int .i64 0, .int .i64 0, .int .i64 0, .int .i64 0, .int .i64 0, .slice none 0 0] 24 (0, 0))) := hidn (heap_alloc_new w4 _)
  obtain ⟨w4s, hw4s⟩ : ∃ q, q = (w4.alloc (.cells #[.int .i64 0, .int .i64 0, .int .i64 0, .int .i64 0, .int .i64 0, .int .i64 0, .int .i64 0, .slice none 0 0] 24)).setRow w4.heap.size #[.int .i64 y0, .int .i64 y1, .int .i64 y2, .int .i64 y3, .int .i64 y4, .int .i64 y5, .int .i64 y6, .slice qa P qc] := ⟨_, rfl⟩
  have HW4 := hidn hw4s
  have HBs4 : Hid (Below w4.heap.size w4 w4s) := hidn (by rw [hw4s]; exact below_setRow (ft_below1 w4 _) (Nat.le_refl _) _)
  have HP4 : Hid (w4s.heap[w4.heap.size]? = some (.cells #[.int .i64 y0, .int .i64 y1, .int .i64 y2, .int .i64 y3, .int .i64 y4, .int .i64 y5, .int .i64 y6, .slice qa P qc] 24 (0, 0))) := hidn (by rw [hw4s]; exact setRow_heap _ _ _ _ _ _ (heap_alloc_new w4 _))
  clear hw4s
  have HB4 : Hid (Below w.heap.size w w4s) := hidn (HB3.out.trans ((b4.trans (HBs4.out.mono b4.size)).mono HB3.out.size))
  have HR4 : Hid (w4s.heap[w.heap.size]? = some (.cells #[.int .i64 n, .int .i64 g, .int .i64 l, .int .i64 r, .int .i64 mn, .int .i64 mx, .int .i64 by', .slice a len cap] 24 (0, 0))) := hidn (((b4.trans (HBs4.out.mono b4.size)).block w.heap.size (Array.getElem?_eq_some_iff.1 HR3.out).1).trans HR3.out)
  have HPP4 : Hid (w4s.heap[w3.heap.size]? = some (.cells #[.int .i64 y0, .int .i64 y1, .int .i64 y2, .int .i64 y3, .int .i64 y4, .int .i64 y5, .int .i64 y6, .slice pa P pc] 24 (0, 0))) := hidn (((b4.trans (HBs4.out.mono b4.size)).block w3.heap.size (Array.getElem?_eq_some_iff.1 HP3.out).1).trans HP3.out)
  have HX4 := hidn (HX3.out.below (b4.trans (HBs4.out.mono b4.size)))
  have HY4 := hidn (HY3.out.below (b4.trans (HBs4.out.mono b4.size)))
  have HI4 := hidn (HI3.out.below (b4.trans (HBs4.out.mono b4.size)))
  have HJ4 := hidn (hq4.below HBs4.out)
  clear hq4 b4
  simp only []
  go_at_K
  repeat (first
    | (with_reducible refine wpList_store_row (by rfl) 24 (.tmp 11) (.tmp 33) (by rfl) w4.heap.size #[.int .i64 y0, .int .i64 y1, .int .i64 y2, .int .i64 y3, .int .i64 y4, .int .i64 y5, .int .i64 y6, .slice qa P qc] (by kernel_rfl) (by kernel_rfl) 24 #[.int .i64 0, .int .i64 0, .int .i64 0, .int .i64 0, .int .i64 0, .int .i64 0, .int .i64 0, .slice none 0 0] HS4.out (by kernel_rfl) (by kernel_rfl) (by kernel_rfl) ?_)
    | go_values | go_skip | go_guarded | go_step | go_upon)
  rw [← HW4.out]
  have HEQ := hidn (Cd.equalB_any xa x xc X ya x yc X w4s HX4.out HY4.out (by have := HXL.out; omega) (by have := HXL.out; omega))
  rw [decide_eq_true (rfl : X = X)] at HEQ
  refine HEQ.out.mono ?_
  rintro e w5 ⟨rfl, b5⟩
  have HB5 : Hid (Below w.heap.size w w5) := hidn (HB4.out.trans (b5.mono HB4.out.size))
  have HR5 : Hid (w5.heap[w.heap.size]? = some (.cells #[.int .i64 n, .int .i64 g, .int .i64 l, .int .i64 r, .int .i64 mn, .int .i64 mx, .int .i64 by', .slice a len cap] 24 (0, 0))) := hidn ((b5.block w.heap.size (Array.getElem?_eq_some_iff.1 HR4.out).1).trans HR4.out)
  have HPP5 : Hid (w5.heap[w3.heap.size]? = some (.cells #[.int .i64 y0, .int .i64 y1, .int .i64 y2, .int .i64 y3, .int .i64 y4, .int .i64 y5, .int .i64 y6, .slice pa P pc] 24 (0, 0))) := hidn ((b5.block w3.heap.size (Array.getElem?_eq_some_iff.1 HPP4.out).1).trans HPP4.out)
  have HPQ5 : Hid (w5.heap[w4.heap.size]? = some (.cells #[.int .i64 y0, .int .i64 y1, .int .i64 y2, .int .i64 y3, .int .i64 y4, .int .i64 y5, .int .i64 y6, .slice qa P qc] 24 (0, 0))) := hidn ((b5.block w4.heap.size (Array.getElem?_eq_some_iff.1 HP4.out).1).trans HP4.out)
  have HX5 := hidn (HX4.out.below b5)
  have HSF := hidn (sf_same w5 y0 y1 y2 y3 y4 y5 y6 pa qa P pc qc Q (HI4.out.below b5) (HJ4.out.below b5))
  clear b5 HEQ
  simp only []
  go_at_K
  repeat (first
    | (with_reducible refine wpList_load_roww (by kernel_rfl) 24 (.tmp 9) (by rfl) w3.heap.size (by kernel_rfl) 24 #[.int .i64 y0, .int .i64 y1, .int .i64 y2, .int .i64 y3, .int .i64 y4, .int .i64 y5, .int .i64 y6, .slice pa P pc] (0, 0) _ HPP5.out Tryd.underlying24 rfl (by kernel_rfl) ?_)
    | (with_reducible refine wpList_load_roww (by kernel_rfl) 24 (.tmp 11) (by rfl) w4.heap.size (by kernel_rfl) 24 #[.int .i64 y0, .int .i64 y1, .int .i64 y2, .int .i64 y3, .int .i64 y4, .int .i64 y5, .int .i64 y6, .slice qa P qc] (0, 0) _ HPQ5.out Tryd.underlying24 rfl (by kernel_rfl) ?_)
    | go_values | go_skip | go_guarded | go_step | go_upon)
  refine HSF.out.mono ?_
  rintro e w6 ⟨rfl, b6⟩
  have HB6 : Hid (Below w.heap.size w w6) := hidn (HB5.out.trans (b6.mono HB5.out.size))
  have HR6 : Hid (w6.heap[w.heap.size]? = some (.cells #[.int .i64 n, .int .i64 g, .int .i64 l, .int .i64 r, .int .i64 mn, .int .i64 mx, .int .i64 by', .slice a len cap] 24 (0, 0))) := hidn ((b6.block w.heap.size (Array.getElem?_eq_some_iff.1 HR5.out).1).trans HR5.out)
  have HX6 := hidn (HX5.out.below b6)
  clear b6 HSF
  simp only []
  go_at_K
  repeat (first
    | go_values | go_skip | go_guarded | go_step | go_upon)
  refine (H7.out w6 xa xc HX6.out HXC.out).mono ?_
  rintro e w7 ⟨ra, rc, rfl, hr7, b7⟩
  have HS7 : Hid ((w7.alloc (.cells #[.int .i64 0, .int .i64 0, .int .i64 0, .int .i64 0, .int .i64 0, .int .i64 0, .int .i64 0, .slice none 0 0] 24)).heap[w7.heap.size]? = some (.cells #[.int .i64 0, .int .i64 0, .int .i64 0, .int .i64 0, .int .i64 0, .int .i64 0, .int .i64 0, .slice none 0 0] 24 (0, 0))) := hidn (heap_alloc_new w7 _)
  obtain ⟨w7s, hw7s⟩ : ∃ q, q = (w7.alloc (.cells #[.int .i64 0, .int .i64 0, .int .i64 0, .int .i64 0, .int .i64 0, .int .i64 0, .int .i64 0, .slice none 0 0] 24)).setRow w7.heap.size #[.int .i64 u0, .int .i64 u1, .int .i64 u2, .int .i64 u3, .int .i64 u4, .int .i64 u5, .int .i64 u6, .slice ra P2 rc] := ⟨_, rfl⟩
  have HW7 := hidn hw7s
  have HBs7 : Hid (Below w7.heap.size w7 w7s) := hidn (by rw [hw7s]; exact below_setRow (ft_below1 w7 _) (Nat.le_refl _) _)
  have HP7 : Hid (w7s.heap[w7.heap.size]? = some (.cells #[.int .i64 u0, .int .i64 u1, .int .i64 u2, .int .i64 u3, .int .i64 u4, .int .i64 u5, .int .i64 u6, .slice ra P2 rc] 24 (0, 0))) := hidn (by rw [hw7s]; exact setRow_heap _ _ _ _ _ _ (heap_alloc_new w7 _))
  clear hw7s
  have HB7 : Hid (Below w.heap.size w w7s) := hidn (HB6.out.trans ((b7.trans (HBs7.out.mono b7.size)).mono HB6.out.size))
  have HR7 : Hid (w7s.heap[w.heap.size]? = some (.cells #[.int .i64 n, .int .i64 g, .int .i64 l, .int .i64 r, .int .i64 mn, .int .i64 mx, .int .i64 by', .slice a len cap] 24 (0, 0))) := hidn (((b7.trans (HBs7.out.mono b7.size)).block w.heap.size (Array.getElem?_eq_some_iff.1 HR6.out).1).trans HR6.out)
  have HI7 := hidn (hr7.below HBs7.out)
  clear hr7 b7
  by_cases hc : bCan n g l r mn mx by' ps = true
  · obtain rfl := HGc.out.1 hc
    obtain ⟨e0, e1, e2, e3, e4, e5, e6, e7, e8, e9⟩ := HK2.out hc
    clear HK2
    obtain rfl := e0.symm
    obtain rfl := e1.symm
    obtain rfl := e2.symm
    obtain rfl := e3.symm
    obtain rfl := e4.symm
    obtain rfl := e5.symm
    obtain rfl := e6.symm
    obtain rfl := e7.symm
    obtain rfl := e8.symm
    obtain rfl := e9.symm
    have HSF := hidn (sf_same w7s n g l r mn mx by' ra a len rc cap ps HI7.out (H.out.below HB7.out))
    clear hc
    have HPX : Hid (((w7.alloc (.cells #[.int .i64 0, .int .i64 0, .int .i64 0, .int .i64 0, .int .i64 0, .int .i64 0, .int .i64 0, .slice none 0 0] 24)).setRow w7.heap.size #[.int .i64 n, .int .i64 g, .int .i64 l, .int .i64 r, .int .i64 mn, .int .i64 mx, .int .i64 by', .slice ra len rc]).heap[w7.heap.size]? = some (.cells #[.int .i64 n, .int .i64 g, .int .i64 l, .int .i64 r, .int .i64 mn, .int .i64 mx, .int .i64 by', .slice ra len rc] 24 (0, 0))) := hidn (by rw [← HW7.out]; exact HP7.out)
    have HRX : Hid (((w7.alloc (.cells #[.int .i64 0, .int .i64 0, .int .i64 0, .int .i64 0, .int .i64 0, .int .i64 0, .int .i64 0, .slice none 0 0] 24)).setRow w7.heap.size #[.int .i64 n, .int .i64 g, .int .i64 l, .int .i64 r, .int .i64 mn, .int .i64 mx, .int .i64 by', .slice ra len rc]).heap[w.heap.size]? = some (.cells #[.int .i64 n, .int .i64 g, .int .i64 l, .int .i64 r, .int .i64 mn, .int .i64 mx, .int .i64 by', .slice a len cap] 24 (0, 0))) := hidn (by rw [← HW7.out]; exact HR7.out)
    simp only []
    go_at_K
    repeat (first
      | (with_reducible refine wpList_store_row (by rfl) 24 (.tmp 13) (.tmp 58) (by rfl) w7.heap.size #[.int .i64 n, .int .i64 g, .int .i64 l, .int .i64 r, .int .i64 mn, .int .i64 mx, .int .i64 by', .slice ra len rc] (by kernel_rfl) (by kernel_rfl) 24 #[.int .i64 0, .int .i64 0, .int .i64 0, .int .i64 0, .int .i64 0, .int .i64 0, .int .i64 0, .slice none 0 0] HS7.out (by kernel_rfl) (by kernel_rfl) (by kernel_rfl) ?_)
      | (with_reducible refine wpList_load_roww (by kernel_rfl) 24 (.tmp 13) (by rfl) w7.heap.size (by kernel_rfl) 24 #[.int .i64 n, .int .i64 g, .int .i64 l, .int .i64 r, .int .i64 mn, .int .i64 mx, .int .i64 by', .slice ra len rc] (0, 0) _ HPX.out Tryd.underlying24 rfl (by kernel_rfl) ?_)
      | (with_reducible refine wpList_load_roww (by kernel_rfl) 24 (.tmp 2) (by rfl) w.heap.size (by kernel_rfl) 24 #[.int .i64 n, .int .i64 g, .int .i64 l, .int .i64 r, .int .i64 mn, .int .i64 mx, .int .i64 by', .slice a len cap] (0, 0) _ HRX.out Tryd.underlying24 rfl (by kernel_rfl) ?_)
      | go_values | go_skip | go_guarded | go_step | go_upon)
    rw [← HW7.out]
    refine HSF.out.mono ?_
    rintro e w8 ⟨rfl, b8⟩
    have HB8 : Hid (Below w.heap.size w w8) := hidn (HB7.out.trans (b8.mono HB7.out.size))
    have HAW := hidn (awake19 w8 (HT.out.below HB8.out) (HDB.out.below HB8.out))
    clear b8 HSF
    simp only []
    go_at_K
    repeat (first | go_values | go_skip | go_guarded | go_step | go_upon)
    refine HAW.out.mono ?_
    rintro e w9 ⟨rfl, b9⟩
    have hb9 := HB8.out.trans (b9.mono HB8.out.size)
    go_wp2_with fail
    exact bodyPost_ret (v := .bool true) (by simp [results, Tryd.results3, go_sem]) rfl ⟨rfl, hb9⟩
  · have hc2 : bCan n g l r mn mx by' ps = false := by simpa using hc
    obtain rfl := HGc.out.2 hc2
    have HAW := hidn (awake19 w7s (HT.out.below HB7.out) (HDB.out.below HB7.out))
    clear hc hc2 HK2
    simp only []
    go_at_K
    repeat (first
      | (with_reducible refine wpList_store_row (by rfl) 24 (.tmp 13) (.tmp 58) (by rfl) w7.heap.size #[.int .i64 u0, .int .i64 u1, .int .i64 u2, .int .i64 u3, .int .i64 u4, .int .i64 u5, .int .i64 u6, .slice ra P2 rc] (by kernel_rfl) (by kernel_rfl) 24 #[.int .i64 0, .int .i64 0, .int .i64 0, .int .i64 0, .int .i64 0, .int .i64 0, .int .i64 0, .slice none 0 0] HS7.out (by kernel_rfl) (by kernel_rfl) (by kernel_rfl) ?_)
      | go_values | go_skip | go_guarded | go_step | go_upon)
    rw [← HW7.out]
    refine HAW.out.mono ?_
    rintro e w9 ⟨rfl, b9⟩
    have hb9 := HB7.out.trans (b9.mono HB7.out.size)
    go_wp2_with fail
    exact bodyPost_ret (v := .bool true) (by simp [results, Tryd.results3, go_sem]) rfl ⟨rfl, hb9⟩
end Go.Proofs.YtfgfkifdokeefaaDoor
