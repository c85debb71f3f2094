/- Disks: two new disks, with steps done on both. -/
import Derived.Test.YtdppolelakbbiaaGreatDoorTwD
import Derived.Test.YtdppolelakbbiaaGreatDoorMe
import Derived.Test.YtdppolelakbbiaaGreatDoorAnV
import Derived.Test.YtdppolelakbbiaaGreatDoorAncsDef
namespace Go.Proofs.YtdppolelakbbiaaGreatDoor
open Go.RowKit Go.Maps
set_option linter.unusedVariables false
def st0 (r : Nat) : St := ⟨fun _ => [], (r : Int), -1⟩
theorem rel_new (r : Nat) (h : r ≤ 100000) : RelV [] (r : Int) (st0 r) :=
 ⟨fun s => rfl, by show (r : Int) = (r : Int) - ((0 : Nat) : Int); omega, by show (0 : Int) ≤ (r : Int); omega, by omega, by omega, by show (-1 : Int) ≤ -1; omega, by show (-1 : Int) ≤ _; omega, (fun p hp => by cases hp), (fun p hp => by cases hp), List.Pairwise.nil⟩
theorem two_new {w w1 w2 : World} {r : Nat} (hr : r ≤ 100000) (h1 : DiskOf w1 (w.heap.size + 1) (fun k => w.heap.size ≤ k ∧ k < w.heap.size + 2) 0 (fun _ => []) (r : Int) (-1)) (b1 : Below w.heap.size w w1) (s1 : w1.heap.size = w.heap.size + 2)
  (h2 : RyOf w2 w1.heap.size (fun k => k = w1.heap.size) none 0 [] (r : Int) (-1)) (b2 : Below w1.heap.size w1 w2) (s2 : w2.heap.size = w1.heap.size + 1) : Two w w2 (w.heap.size + 1) 0 w1.heap.size (r : Int) (st0 r) := by
 refine ⟨b1.trans (b2.mono b1.size), _, _, DiskOf.below h1 b2, ⟨none, 0, [], h2, rel_new r hr⟩, fun k hk => ⟨hk.1, ?_⟩, fun k hk => ⟨?_, ?_⟩, fun k hk he => ?_⟩
 ·
  have := hk.2; omega
 ·
  have : k = w1.heap.size := hk
  omega
 ·
  have : k = w1.heap.size := hk
  omega
 ·
  have h3 : k = w1.heap.size := he
  have := hk.2
  omega
theorem StsK.step {w : World} {a : Option Addr} {len : Nat} {l : List StK} (h : StsK w a len l) {j : Nat} {s : StK} (hs : l[j]? = some s) : (l.map StK.s)[j]? = some s.s := by
 rw [List.getElem?_map, hs]; rfl
theorem Sts.at2 {w w' : World} {a : Option Addr} {len j : Nat} {l : List Stp} {s : Stp} (h : Sts w a len l) (hb : Below w.heap.size w w') (hs : l[j]? = some s) :
  ∃ b off, a = some ⟨b, off, none⟩ ∧ w'.cell? ⟨b, off + j * 8, none⟩ = some (.int .i64 s.op) ∧ w'.cell? ⟨b, off + j * 8 + 1, none⟩ = some (.int .i64 s.i) ∧ w'.cell? ⟨b, off + j * 8 + 2, none⟩ = some (.int .i64 s.at2) ∧ w'.cell? ⟨b, off + j * 8 + 3, none⟩ = some (.int .i64 s.n3) ∧
   w'.cell? ⟨b, off + j * 8 + 4, none⟩ = some (.string s.nm) ∧ w'.cell? ⟨b, off + j * 8 + 5, none⟩ = some (.slice s.ba s.bl s.bc) ∧ w'.cell? ⟨b, off + j * 8 + 6, none⟩ = some (.int .u8 s.m6) ∧ w'.cell? ⟨b, off + j * 8 + 7, none⟩ = some (.slice s.ka s.kl s.kc) :=
 (h.below hb).at hs
theorem do_stepU (W0 w : World) (d N y : Nat) (room : Int) (st : St) (U : Nat → Prop) (h : TwX W0 w d N y room st st U) (hN : N < 1000000) (s : StK) (hs : StKOk W0 s) (m : Nat) (hm : s.s.m6 = (m : Int)) :
  Calls Tryz.prog 16 #[.agg #[.int .i64 s.s.op, .int .i64 s.s.i, .int .i64 s.s.at2, .int .i64 s.s.n3, .string s.s.nm, .slice s.s.ba s.s.bl s.s.bc, .int .u8 (m : Int), .slice s.s.ka s.s.kl s.s.kc], .pointer (some ⟨d, 0, none⟩), .pointer (some ⟨y, 0, none⟩)] w (DoPostU W0 w d N y room U) := by
 obtain ⟨h1, h2, h3, h4, h5, h6, _⟩ := hs
 exact do_anyU W0 w d N y room st U h hN s.s.op s.s.i s.s.at2 s.s.n3 s.s.nm s.s.ba s.s.bl s.s.bc s.s.zs m (by omega) s.s.ka s.s.kl s.s.kc s.ks h1 h2 h3 h5.2 h6
theorem do_step (W0 w : World) (d N y : Nat) (room : Int) (st : St) (h : Two W0 w d N y room st) (hN : N < 1000000) (s : StK) (hs : StKOk W0 s) (m : Nat) (hm : s.s.m6 = (m : Int)) :
  Calls Tryz.prog 16 #[.agg #[.int .i64 s.s.op, .int .i64 s.s.i, .int .i64 s.s.at2, .int .i64 s.s.n3, .string s.s.nm, .slice s.s.ba s.s.bl s.s.bc, .int .u8 (m : Int), .slice s.s.ka s.s.kl s.s.kc], .pointer (some ⟨d, 0, none⟩), .pointer (some ⟨y, 0, none⟩)] w (DoPost W0 d N y room) := by
 obtain ⟨h1, h2, h3, h4, h5, h6, _⟩ := hs
 exact do_any W0 w d N y room st h hN s.s.op s.s.i s.s.at2 s.s.n3 s.s.nm s.s.ba s.s.bl s.s.bc s.s.zs m (by omega) s.s.ka s.s.kl s.s.kc s.ks h1 h2 h3 h5.2 h6
set_option maxHeartbeats 8000000 in
set_option maxRecDepth 100000 in
theorem disks_any (w : World) (r : Nat) (hr : r ≤ 100000) (la : Option Addr) (ll lc : Nat) (sts : List StK) (hM : StsK w la ll sts) :
  Calls Tryz.prog 6 #[.int .i64 (r : Int), .slice la ll lc] w fun e w' => ∃ d y, e = .returned (.tuple #[.pointer (some ⟨d, 0, none⟩), .pointer (some ⟨y, 0, none⟩), .bool true]) ∧ ∃ st, Two w w' d 40 y (r : Int) st := by
 have hpn := fun (wx : World) (p : Option Addr) => run_eql_pointer_nil (P := Tryz.prog) wx 24 p (by kernel_rfl)
 have HM := hidn hM
 have hml := hM.2.1
 unfold maxLen at hml
 have HLn := hidn hM.1
 clear hM
 go_enter Tryz.func6, Tryz.ntmps6
 go_wp2_with fail
 refine (new_any _ r hr).mono ?_
 rintro e w1 ⟨rfl, hD1, hb1, hs1⟩
 have HD1 := hidn hD1
 have HB1 := hidn hb1
 have HS1 := hidn hs1
 clear hD1 hb1 hs1
 go_wp2_with fail
 refine (newY_yes _ r hr).mono ?_
 rintro e w2 ⟨rfl, hY2, hb2, hs2⟩
 have HT := hidn (two_new hr HD1.out HB1.out HS1.out hY2 hb2 hs2)
 clear hY2 hb2 hs2 HD1 HB1 HS1
 obtain ⟨d, hd⟩ : ∃ d, d = w.heap.size + 1 := ⟨_, rfl⟩
 obtain ⟨y, hy⟩ : ∃ y, y = w1.heap.size := ⟨_, rfl⟩
 rw [← hd, ← hy] at HT
 rw [← hd, ← hy]
 have HI0 : Hid (∃ st, Two w w2 d (min 0 40) y (r : Int) st) := hidn ⟨_, HT.out⟩
 clear hd hy HT
 go_wp2_with fail
 go_loopw [38] (fun iv wr => ∃ k : Nat, k ≤ ll ∧ iv = .int .i64 (k : Int) ∧ Hid (∃ st, Two w wr d (min k 40) y (r : Int) st)) (fun iv _ => ll - (intOf iv).toNat)
 case atStart => exact ⟨0, Nat.zero_le _, rfl, HI0⟩
 case round =>
  obtain ⟨j, hj, rfl, HI⟩ := hrel
  by_cases hlt : j < ll
  ·
   have hlt2 : (j : Int) < (ll : Int) := by omega
   obtain ⟨s, hs⟩ : ∃ s, sts[j]? = some s := ⟨_, lQ6 (by rw [HLn.out]; exact hlt)⟩
   have hB : Below w.heap.size w wr := by obtain ⟨st, hT⟩ := HI.out; exact hT.1
   obtain ⟨mb, mo, rfl, c0, c1, c2, c3, c4, c5, c6, c7⟩ := HM.out.sts.at2 hB (HM.out.step hs)
   have HOK := hidn (HM.out.2.2.2.1 s (lQ7 hs))
   obtain ⟨m, hm⟩ : ∃ m : Nat, s.s.m6 = (m : Int) := ⟨s.s.m6.toNat, by have := HOK.out.2.2.2.1; omega⟩
   have HMM := hidn hm
   rw [hm] at c6
   clear hs hB hm
   have HTS : Hid (∃ st, Two w (wr.alloc (.cells #[.int .i64 s.s.op, .int .i64 s.s.i, .int .i64 s.s.at2, .int .i64 s.s.n3, .string s.s.nm, .slice s.s.ba s.s.bl s.s.bc, .int .u8 (m : Int), .slice s.s.ka s.s.kl s.s.kc] 31)) d (min j 40) y (r : Int) st) := hidn (by
    obtain ⟨st, hT⟩ := HI.out
    exact ⟨st, hT.below ((Below.refl _ _).alloc (Nat.le_refl _) _)⟩)
   by_cases h40 : j < 40
   ·
    have h40i : (j : Int) < 40 := by omega
    go_wp2_with fail
    obtain ⟨st, hT⟩ := HTS.out
    refine (do_step w _ d (min j 40) y (r : Int) st hT (by omega) s HOK.out m HMM.out).mono ?_
    rintro e w3 ⟨rfl, st', hT'⟩
    have HI2 : Hid (∃ st, Two w w3 d (min (j + 1) 40) y (r : Int) st) := hidn ⟨st', hT'.mono (by omega)⟩
    clear hT hT' c0 c1 c2 c3 c4 c5 c6 c7 HI HTS
    go_wp2
    go_roundw
    case rel => exact ⟨j + 1, hlt, by simp, HI2⟩
    case measure => simp [intOf]; omega
   ·
    have h40i : ¬ (j : Int) < 40 := by omega
    have HI2 : Hid (∃ st, Two w (wr.alloc (.cells #[.int .i64 s.s.op, .int .i64 s.s.i, .int .i64 s.s.at2, .int .i64 s.s.n3, .string s.s.nm, .slice s.s.ba s.s.bl s.s.bc, .int .u8 (m : Int), .slice s.s.ka s.s.kl s.s.kc] 31)) d (min (j + 1) 40) y (r : Int) st) := hidn (by
     obtain ⟨st, hT⟩ := HTS.out
     exact ⟨st, hT.mono (by omega)⟩)
    clear HI HTS
    go_wp2
    go_roundw
    case rel => exact ⟨j + 1, hlt, by simp, HI2⟩
    case measure => simp [intOf]; omega
  ·
   have hlt2 : ¬ (j : Int) < (ll : Int) := by omega
   go_wp2_with fail
   obtain ⟨st, hT⟩ := HI.out
   refine (same_any w _ d (min j 40) y (r : Int) st hT (by omega)).mono ?_
   rintro e w3 ⟨rfl, hb3⟩
   have HZ := hidn (show ∃ st, Two w w3 d 40 y (r : Int) st from ⟨st, (hT.below hb3).mono (by omega)⟩)
   clear hT hb3
   go_wp2
   go_ret3
   exact ⟨d, y, rfl, HZ.out⟩
end Go.Proofs.YtdppolelakbbiaaGreatDoor

namespace Go.Proofs.YtdppolelakbbiaaGreatDoor
open Go.RowKit Go.Maps
set_option linter.unusedVariables false
def svD (st : St) (y0 y1 y2 y3 y4 y5 y6 y7 y8 y9 : Int) : St × Int × List Int :=
 if y0 < 0 ∨ 4611686018427387904 ≤ y0 ∨ ancB (y0 + 1) y1 y2 y3 y4 y7 y8 y9 = false then (st, 1, [0, 0, 0, 0, 0, 0, 0, 0, 0, 0])
 else if (putD st ancN 0 (y0 + 1).toNat (wordsB [y0 + 1, y1, y2, y3, y4, y5, y6, y7, y8, y9])).2 = 0 then ((putD st ancN 0 (y0 + 1).toNat (wordsB [y0 + 1, y1, y2, y3, y4, y5, y6, y7, y8, y9])).1, 0, [y0 + 1, y1, y2, y3, y4, y5, y6, y7, y8, y9])
 else ((putD st ancN 0 (y0 + 1).toNat (wordsB [y0 + 1, y1, y2, y3, y4, y5, y6, y7, y8, y9])).1, (putD st ancN 0 (y0 + 1).toNat (wordsB [y0 + 1, y1, y2, y3, y4, y5, y6, y7, y8, y9])).2, [0, 0, 0, 0, 0, 0, 0, 0, 0, 0])
theorem svD_ten (st : St) (y0 y1 y2 y3 y4 y5 y6 y7 y8 y9 : Int) : ∃ st' rv x0 x1 x2 x3 x4 x5 x6 x7 x8 x9, svD st y0 y1 y2 y3 y4 y5 y6 y7 y8 y9 = (st', rv, [x0, x1, x2, x3, x4, x5, x6, x7, x8, x9]) := by
 unfold svD
 split
 ·
  exact ⟨_, _, _, _, _, _, _, _, _, _, _, _, rfl⟩
 ·
  split
  ·
   exact ⟨_, _, _, _, _, _, _, _, _, _, _, _, rfl⟩
  ·
   exact ⟨_, _, _, _, _, _, _, _, _, _, _, _, rfl⟩
theorem wrap_no {y0 : Int} (h : y0 < 0 ∨ 4611686018427387904 ≤ y0) (hr : -9223372036854775808 ≤ y0 ∧ y0 ≤ 9223372036854775807) (y1 y2 y3 y4 y7 y8 y9 : Int) : ancB (IntKind.i64.wrap (y0 + 1)) y1 y2 y3 y4 y7 y8 y9 = false := by
 have h1 : IntKind.i64.wrap (y0 + 1) < 1 ∨ 4611686018427387904 < IntKind.i64.wrap (y0 + 1) := by
  rw [IntKind.wrap_i64]
  omega
 generalize IntKind.i64.wrap (y0 + 1) = z at *
 unfold ancB inN
 simp
 omega
theorem StOK_of {V : Vw} {room : Int} {st : St} (h : RelV V room st) : StOK st 100000 :=
 ⟨h.fuse0, h.fuse1, h.free0, by have := h.free1; omega, fun nm => h.len nm⟩
theorem rel_M0 {V : Vw} {room : Int} {st : St} (h : RelV V room st) : st.M [] = [] := by
 have h1 := h.ext ⟨#[]⟩
 have e : (⟨#[]⟩ : ByteArray).data.toList = [] := rfl
 rw [e] at h1
 rw [h1]
 refine findV_none fun p hp e => ?_
 have := h.name p hp
 rw [e] at this
 simp [nameB] at this
theorem save_any (w : World) (d : Nat) (F : Nat → Prop) (N : Nat) (st : St) (h : DiskS w d F N st) (hS : Sound5 w F) {V : Vw} {room : Int} (hV : RelV V room st) (hN : N < 1000000)
  (y0 y1 y2 y3 y4 y5 y6 y7 y8 y9 : Int) (hr : -9223372036854775808 ≤ y0 ∧ y0 ≤ 9223372036854775807) (st' : St) (rv : Int) (x0 x1 x2 x3 x4 x5 x6 x7 x8 x9 : Int) (HR : Hid (svD st y0 y1 y2 y3 y4 y5 y6 y7 y8 y9 = (st', rv, [x0, x1, x2, x3, x4, x5, x6, x7, x8, x9]))) :
  Calls Tryz.prog 24 #[.pointer (some ⟨d, 0, none⟩), .agg (tQ y0 y1 y2 y3 y4 y5 y6 y7 y8 y9)] w (SvPost w d F (N + 2) st' rv (.agg (tQ x0 x1 x2 x3 x4 x5 x6 x7 x8 x9))) := by
 have hS' := HR.out
 unfold svD at hS'
 by_cases hc : y0 < 0 ∨ 4611686018427387904 ≤ y0 ∨ ancB (y0 + 1) y1 y2 y3 y4 y7 y8 y9 = false
 ·
  rw [if_pos hc] at hS'
  simp only [Prod.mk.injEq, List.cons.injEq, and_true] at hS'
  obtain ⟨rfl, rfl, rfl, rfl, rfl, rfl, rfl, rfl, rfl, rfl, rfl, rfl⟩ := hS'
  have hno : ancB (IntKind.i64.wrap (y0 + 1)) y1 y2 y3 y4 y7 y8 y9 = false := by
   by_cases h1 : y0 < 0 ∨ 4611686018427387904 ≤ y0
   ·
    exact wrap_no h1 hr _ _ _ _ _ _ _
   ·
    rcases hc with hc | hc | hc
    ·
     exact absurd (.inl hc) h1
    ·
     exact absurd (.inr hc) h1
    ·
     rw [show IntKind.i64.wrap (y0 + 1) = y0 + 1 by rw [IntKind.wrap_i64]; omega]
     exact hc
  refine (save_no w d F N st h (rel_M0 hV) y0 y1 y2 y3 y4 y5 y6 y7 y8 y9 _ rfl hno).mono ?_
  rintro e w' ⟨rfl, hb⟩
  exact ⟨rfl, F, (DiskS.below h hb).mono (by omega), Gr.of (Keeps.of_below hb)⟩
 ·
  rw [if_neg hc] at hS'
  simp only [not_or, Bool.not_eq_false, Int.not_lt, Int.not_le] at hc
  obtain ⟨h0, h1, hcan⟩ := hc
  obtain ⟨g, hg⟩ : ∃ g : Nat, y0 + 1 = (g : Int) := ⟨(y0 + 1).toNat, by omega⟩
  rw [hg] at hcan hS'
  rw [Int.toNat_natCast] at hS'
  obtain ⟨r, hr2⟩ : ∃ r, r = putD st ancN 0 g (wordsB [(g : Int), y1, y2, y3, y4, y5, y6, y7, y8, y9]) := ⟨_, rfl⟩
  rw [← hr2] at hS'
  obtain ⟨s1, v1⟩ := r
  simp only at hS'
  refine save_st w d F N st h hS 100000 (StOK_of hV) (by omega) (by unfold maxLen; omega) (rel_M0 hV) y0 y1 y2 y3 y4 y5 y6 y7 y8 y9 g hg hcan _ (hidn rfl) st' rv (hidn ?_) _ (fun h0 => ?_) (fun h0 => ?_)
  ·
   rw [← hr2]
   split at hS'
   ·
    next h => simp only [Prod.mk.injEq] at hS'; obtain ⟨rfl, rfl, _⟩ := hS'; rw [h]
   ·
    simp only [Prod.mk.injEq] at hS'; obtain ⟨rfl, rfl, _⟩ := hS'; rfl
  ·
   split at hS'
   ·
    simp only [Prod.mk.injEq, List.cons.injEq, and_true] at hS'
    obtain ⟨_, _, rfl, rfl, rfl, rfl, rfl, rfl, rfl, rfl, rfl, rfl⟩ := hS'
    rfl
   ·
    next h => simp only [Prod.mk.injEq] at hS'; obtain ⟨_, e2, _⟩ := hS'; exact absurd (e2.trans h0) h
  ·
   split at hS'
   ·
    simp only [Prod.mk.injEq] at hS'; obtain ⟨_, e2, _⟩ := hS'; exact absurd e2.symm h0
   ·
    simp only [Prod.mk.injEq, List.cons.injEq, and_true] at hS'
    obtain ⟨_, _, rfl, rfl, rfl, rfl, rfl, rfl, rfl, rfl, rfl, rfl⟩ := hS'
    rfl
theorem saveY_any (w : World) (y : Nat) (F : Nat → Prop) (room : Int) (st : St) (h : DiskY w y F room st) (hF : ∀ k, F k → k < w.heap.size)
  (y0 y1 y2 y3 y4 y5 y6 y7 y8 y9 : Int) (st' : St) (rv : Int) (x0 x1 x2 x3 x4 x5 x6 x7 x8 x9 : Int) (HR : Hid (svD st y0 y1 y2 y3 y4 y5 y6 y7 y8 y9 = (st', rv, [x0, x1, x2, x3, x4, x5, x6, x7, x8, x9]))) :
  Calls Tryz.prog 25 #[.pointer (some ⟨y, 0, none⟩), .agg (tQ y0 y1 y2 y3 y4 y5 y6 y7 y8 y9)] w (SvPostY w y F room st' rv (.agg (tQ x0 x1 x2 x3 x4 x5 x6 x7 x8 x9))) := by
 have hS' := HR.out
 unfold svD at hS'
 by_cases hc : y0 < 0 ∨ 4611686018427387904 ≤ y0 ∨ ancB (y0 + 1) y1 y2 y3 y4 y7 y8 y9 = false
 ·
  rw [if_pos hc] at hS'
  simp only [Prod.mk.injEq, List.cons.injEq, and_true] at hS'
  obtain ⟨rfl, rfl, rfl, rfl, rfl, rfl, rfl, rfl, rfl, rfl, rfl, rfl⟩ := hS'
  by_cases h1 : y0 < 0 ∨ 4611686018427387904 ≤ y0
  ·
   refine (saveY_arg w y y0 y1 y2 y3 y4 y5 y6 y7 y8 y9 h1).mono ?_
   rintro e w' ⟨rfl, hb⟩
   exact ⟨rfl, F, h.below hF hb, Gr.of (Keeps.of_below hb)⟩
  ·
   have hcan : ancB (y0 + 1) y1 y2 y3 y4 y7 y8 y9 = false := by
    rcases hc with hc | hc | hc
    ·
     exact absurd (.inl hc) h1
    ·
     exact absurd (.inr hc) h1
    ·
     exact hc
   obtain ⟨g, hg⟩ : ∃ g : Nat, y0 + 1 = (g : Int) := ⟨(y0 + 1).toNat, by omega⟩
   rw [hg] at hcan
   refine (saveY_no w y y0 y1 y2 y3 y4 y5 y6 y7 y8 y9 g hg (by omega) (by omega) hcan).mono ?_
   rintro e w' ⟨rfl, hb⟩
   exact ⟨rfl, F, h.below hF hb, Gr.of (Keeps.of_below hb)⟩
 ·
  rw [if_neg hc] at hS'
  simp only [not_or, Bool.not_eq_false, Int.not_lt, Int.not_le] at hc
  obtain ⟨h0, h1, hcan⟩ := hc
  obtain ⟨g, hg⟩ : ∃ g : Nat, y0 + 1 = (g : Int) := ⟨(y0 + 1).toNat, by omega⟩
  rw [hg] at hcan hS'
  rw [Int.toNat_natCast] at hS'
  obtain ⟨r, hr2⟩ : ∃ r, r = putD st ancN 0 g (wordsB [(g : Int), y1, y2, y3, y4, y5, y6, y7, y8, y9]) := ⟨_, rfl⟩
  rw [← hr2] at hS'
  obtain ⟨s1, v1⟩ := r
  simp only at hS'
  refine saveY_st w y F room st h hF y0 y1 y2 y3 y4 y5 y6 y7 y8 y9 g hg h0 h1 hcan _ (hidn rfl) st' rv (hidn ?_) _ (fun h0 => ?_) (fun h0 => ?_)
  ·
   rw [← hr2]
   split at hS'
   ·
    next h => simp only [Prod.mk.injEq] at hS'; obtain ⟨rfl, rfl, _⟩ := hS'; rw [h]
   ·
    simp only [Prod.mk.injEq] at hS'; obtain ⟨rfl, rfl, _⟩ := hS'; rfl
  ·
   split at hS'
   ·
    simp only [Prod.mk.injEq, List.cons.injEq, and_true] at hS'
    obtain ⟨_, _, rfl, rfl, rfl, rfl, rfl, rfl, rfl, rfl, rfl, rfl⟩ := hS'
    rfl
   ·
    next h => simp only [Prod.mk.injEq] at hS'; obtain ⟨_, e2, _⟩ := hS'; exact absurd (e2.trans h0) h
  ·
   split at hS'
   ·
    simp only [Prod.mk.injEq] at hS'; obtain ⟨_, e2, _⟩ := hS'; exact absurd e2.symm h0
   ·
    simp only [Prod.mk.injEq, List.cons.injEq, and_true] at hS'
    obtain ⟨_, _, rfl, rfl, rfl, rfl, rfl, rfl, rfl, rfl, rfl, rfl⟩ := hS'
    rfl
theorem fields_ten (zs : List Nat) : ∃ x0 x1 x2 x3 x4 x5 x6 x7 x8 x9, fieldsI zs = [x0, x1, x2, x3, x4, x5, x6, x7, x8, x9] := ⟨_, _, _, _, _, _, _, _, _, _, rfl⟩
theorem loads_one (M : List UInt8 → List Ext) (hok : ∀ s, ∀ x ∈ M s, x.ok) : ∃ v x0 x1 x2 x3 x4 x5 x6 x7 x8 x9, (∀ (w : World) (d : Nat) (F : Nat → Prop) (N : Nat) (free fuse : Int), DiskOf w d F N M free fuse → CrcTab w → M [] = [] →
   Calls Tryz.prog 26 #[.pointer (some ⟨d, 0, none⟩)] w fun e w' => e = .returned (.tuple #[.agg (tQ x0 x1 x2 x3 x4 x5 x6 x7 x8 x9), .int .i64 v]) ∧ Below w.heap.size w w') ∧
  ∀ (w : World) (y : Nat) (F : Nat → Prop) (room : Int) (st : St), st.M = M → DiskY w y F room st → (∀ k, F k → k < w.heap.size) →
   Calls Tryz.prog 27 #[.pointer (some ⟨y, 0, none⟩)] w fun e w' => e = .returned (.tuple #[.agg (tQ x0 x1 x2 x3 x4 x5 x6 x7 x8 x9), .int .i64 v]) ∧ Below w.heap.size w w' := by
 cases hget : getP M ancN 0 with
 | none =>
  refine ⟨170, 0, 0, 0, 0, 0, 0, 0, 0, 0, 0, fun w d F N free fuse h hT hM0 => load_none w d F N M free fuse h hT hM0 hget, fun w y F room st hM h hF => ?_⟩
  subst hM
  exact loadY_none w y F room st h hF hget
 | some x =>
  obtain ⟨zs, g⟩ := x
  obtain ⟨hl2, hz⟩ := getP_lt hget hok
  by_cases hl : zs.length = 80
  ·
   obtain ⟨x0, x1, x2, x3, x4, x5, x6, x7, x8, x9, hx⟩ := fields_ten zs
   cases hcan : ancB x0 x1 x2 x3 x4 x7 x8 x9 with
   | false =>
    refine ⟨170, 0, 0, 0, 0, 0, 0, 0, 0, 0, 0, fun w d F N free fuse h hT hM0 => load_can w d F N M free fuse h hT hM0 zs g hget hl hz x0 x1 x2 x3 x4 x5 x6 x7 x8 x9 hx hcan, fun w y F room st hM h hF => ?_⟩
    subst hM
    exact loadY_can w y F room st h hF zs g hget hl hz x0 x1 x2 x3 x4 x5 x6 x7 x8 x9 hx hcan
   | true =>
    by_cases he : x0 = (g : Int)
    ·
     refine ⟨0, x0, x1, x2, x3, x4, x5, x6, x7, x8, x9, fun w d F N free fuse h hT hM0 => load_good w d F N M free fuse h hT hM0 zs g hget hl hz x0 x1 x2 x3 x4 x5 x6 x7 x8 x9 hx hcan he, fun w y F room st hM h hF => ?_⟩
     subst hM
     exact loadY_good w y F room st h hF zs g hget hl hz x0 x1 x2 x3 x4 x5 x6 x7 x8 x9 hx hcan he
    ·
     refine ⟨170, 0, 0, 0, 0, 0, 0, 0, 0, 0, 0, fun w d F N free fuse h hT hM0 => load_seq w d F N M free fuse h hT hM0 zs g hget hl hz x0 x1 x2 x3 x4 x5 x6 x7 x8 x9 hx hcan he, fun w y F room st hM h hF => ?_⟩
     subst hM
     exact loadY_seq w y F room st h hF zs g hget hl hz x0 x1 x2 x3 x4 x5 x6 x7 x8 x9 hx hcan he
  ·
   refine ⟨170, 0, 0, 0, 0, 0, 0, 0, 0, 0, 0, fun w d F N free fuse h hT hM0 => load_len w d F N M free fuse h hT hM0 zs g hget hl hl2, fun w y F room st hM h hF => ?_⟩
   subst hM
   exact loadY_len w y F room st h hF zs g hget hl hl2
theorem DiskS.oks {w : World} {d N : Nat} {F : Nat → Prop} {st : St} (h : DiskS w d F N st) : ∀ s, ∀ x ∈ st.M s, x.ok := by
 obtain ⟨bm, D, G, C, h1, h2, h3, h4, h5, h6, h7⟩ := h
 intro s x hx
 exact (h6 s (fun e => by rw [e] at hx; cases hx)).2.2 x hx
end Go.Proofs.YtdppolelakbbiaaGreatDoor

namespace Go.Proofs.YtdppolelakbbiaaGreatDoor
open Go.RowKit Go.Maps
set_option linter.unusedVariables false
theorem neq_anc (w : World) (x0 x1 x2 x3 x4 x5 x6 x7 x8 x9 : Int) : (binOp .neq 58 (.agg (tQ x0 x1 x2 x3 x4 x5 x6 x7 x8 x9)) (.agg (tQ x0 x1 x2 x3 x4 x5 x6 x7 x8 x9))).run Tryz.prog w = .ok (.bool false) w := by
 rw [run_neq_struct]
 simp [go_sem, Tryz.underlying58]
theorem sound_of {W0 w : World} {F : Nat → Prop} (hT : CrcTab W0) (hb : Below W0.heap.size W0 w) (hF : ∀ k, F k → W0.heap.size ≤ k ∧ k < w.heap.size) : Sound5 w F :=
 ⟨hT.below hb, fun hf => by have := (hF _ hf).1; have := hT.lt; omega, fun k hk => (hF k hk).2⟩
theorem x_save (W0 w : World) (d N y : Nat) (room : Int) (st : St) (U : Nat → Prop) (hT : CrcTab W0) (h : TwX W0 w d N y room st st U) (hN : N < 1000000) (q0 q1 q2 q3 q4 q5 q6 q7 q8 q9 : Int) (hr : -9223372036854775808 ≤ q0 ∧ q0 ≤ 9223372036854775807) (st' : St) (rv : Int) (x0 x1 x2 x3 x4 x5 x6 x7 x8 x9 : Int) (HR : Hid (svD st q0 q1 q2 q3 q4 q5 q6 q7 q8 q9 = (st', rv, [x0, x1, x2, x3, x4, x5, x6, x7, x8, x9]))) :
  Calls Tryz.prog 24 #[.pointer (some ⟨d, 0, none⟩), .agg (tQ q0 q1 q2 q3 q4 q5 q6 q7 q8 q9)] w fun e w' => e = .returned (.tuple #[.agg (tQ x0 x1 x2 x3 x4 x5 x6 x7 x8 x9), .int .i64 rv]) ∧ TwX W0 w' d (N + 2) y room st' st (upU U w w') ∧ Gr U (upU U w w') w w' := by
 obtain ⟨V, hV⟩ := h.rel
 obtain ⟨hW, Fd, Fy, hD, hY, hFd, hFy, hX, hUd, hUy⟩ := h
 refine (save_any w d Fd N st hD (sound_of hT hW hFd) hV hN q0 q1 q2 q3 q4 q5 q6 q7 q8 q9 hr st' rv x0 x1 x2 x3 x4 x5 x6 x7 x8 x9 HR).mono ?_
 rintro e w' ⟨rfl, F', hD', hG⟩
 exact ⟨rfl, TwX.prog (N := N) hW hFd hFy hX hUd hUy hY hD' hG⟩
theorem x_saveY (W0 w : World) (d N y : Nat) (room : Int) (st : St) (U : Nat → Prop) (q0 q1 q2 q3 q4 q5 q6 q7 q8 q9 : Int) (st' : St) (rv : Int) (x0 x1 x2 x3 x4 x5 x6 x7 x8 x9 : Int) (HR : Hid (svD st q0 q1 q2 q3 q4 q5 q6 q7 q8 q9 = (st', rv, [x0, x1, x2, x3, x4, x5, x6, x7, x8, x9]))) (h : TwX W0 w d N y room st' st U) :
  Calls Tryz.prog 25 #[.pointer (some ⟨y, 0, none⟩), .agg (tQ q0 q1 q2 q3 q4 q5 q6 q7 q8 q9)] w fun e w' => e = .returned (.tuple #[.agg (tQ x0 x1 x2 x3 x4 x5 x6 x7 x8 x9), .int .i64 rv]) ∧ TwX W0 w' d N y room st' st' (upU U w w') ∧ Gr U (upU U w w') w w' := by
 obtain ⟨hW, Fd, Fy, hD, hY, hFd, hFy, hX, hUd, hUy⟩ := h
 refine (saveY_any w y Fy room st hY (fun k hk => (hFy k hk).2) q0 q1 q2 q3 q4 q5 q6 q7 q8 q9 st' rv x0 x1 x2 x3 x4 x5 x6 x7 x8 x9 HR).mono ?_
 rintro e w' ⟨rfl, F', hD', hG⟩
 exact ⟨rfl, TwX.doc hW hFd hFy hX hUd hUy hD hD' hG⟩
theorem x_row {W0 w : World} {d N y : Nat} {room : Int} {sd sy : St} {U : Nat → Prop} (h : TwX W0 w d N y room sd sy U) (b : Nat) (hb : ¬ U b) (hb0 : W0.heap.size ≤ b) (cs : Array Value) : TwX W0 (w.setRow b cs) d N y room sd sy U :=
 h.other (below_setRow h.1 hb0 cs) (by simp [World.setRow]) (fun k hk => setRow_otherA w b k cs (fun e => hb (e ▸ hk)))
theorem up_lt {U : Nat → Prop} {w w' : World} (h : ∀ k, U k → k < w.heap.size) (hs : w.heap.size ≤ w'.heap.size) : ∀ k, upU U w w' k → k < w'.heap.size := by
 intro k hk
 rcases hk with hk | ⟨_, hk⟩
 ·
  exact lQ2 (h k hk) hs
 ·
  exact hk
set_option maxRecDepth 100000 in
set_option maxHeartbeats 16000000 in
theorem anchorLives_walk (la : Option Addr) (ll lc : Nat) (sts : List StK) (ma : Option Addr) (ml mc : Nat) (ancs : List Anc) (ta : Option Addr) (tl tc : Nat) (more : List StK) (w : World) (hT : CrcTab w) (hM : StsK w la ll sts) (hA : Als w ma ml ancs) (hS : StsK w ta tl more) :
  Calls Tryz.prog 4 #[.slice la ll lc, .slice ma ml mc, .slice ta tl tc] w fun e w' => e = .returned (.bool true) ∧ Below w.heap.size w w' := by
 have HT := hidn hT
 have HM := hidn hM
 have HA := hidn hA
 have HS := hidn hS
 have hml := hA.2.1
 have htl := hS.2.1
 unfold maxLen at hml htl
 have HLa := hidn hA.1
 have HLs := hidn hS.1
 clear hT hM hA hS
 go_enter Tryz.func4, Tryz.ntmps4
 go_wp2_with fail
 refine (disks_any _ 30 (by omega) la ll lc sts HM.out).mono ?_
 rintro e w1 ⟨d, y, rfl, st, hT1⟩
 have HI0 : Hid (∃ st, Two w w1 d (40 + 3 * 0) y 30 st) := hidn ⟨st, hT1⟩
 clear hT1
 go_wp2_with fail
 go_loopw [26] (fun iv wr => ∃ k : Nat, k ≤ ml ∧ k ≤ 13 ∧ iv = .int .i64 (k : Int) ∧ Hid (∃ st, Two w wr d (40 + 3 * k) y 30 st)) (fun iv _ => ml - (intOf iv).toNat)
 case atStart => exact ⟨0, Nat.zero_le _, by omega, rfl, HI0⟩
 case round =>
  obtain ⟨k, hk, hk13, rfl, HI⟩ := hrel
  have hB : Hid (Below w.heap.size w wr) := hidn (by obtain ⟨st, hT⟩ := HI.out; exact hT.1)
  by_cases hlt : k < ml
  ·
   have hlt2 : (k : Int) < (ml : Int) := by omega
   obtain ⟨s, hs⟩ : ∃ s, ancs[k]? = some s := ⟨_, lQ6 (by rw [HLa.out]; exact hlt)⟩
   obtain ⟨mb, mo, rfl, c0, c1, c2, c3, c4, c5, c6, c7, c8, c9⟩ := HA.out.at2 hB.out hs
   have HR0 := hidn (HA.out.2.2.2.1 s (lQ7 hs))
   clear hs
   by_cases h12 : 12 < k
   ·
    have h12i : (12 : Int) < (k : Int) := by omega
    have h12d : decide ((12 : Int) < (k : Int)) = true := decide_eq_true h12i
    have HBz := hidn (hB.out.alloc hB.out.size (.cells (tQ s.n0 s.n1 s.n2 s.n3 s.n4 s.n5 s.n6 s.n7 s.n8 s.n9) 58))
    go_wp2_with fail
    refine (awake17_any _ (HT.out.below HBz.out)).mono ?_
    rintro e w2 ⟨rfl, hb2⟩
    have HB2 := hidn (HBz.out.trans (hb2.mono HBz.out.size))
    clear hb2
    go_wp2
    go_ret
    exact ⟨rfl, HB2.out⟩
   ·
    have h12i : ¬ (12 : Int) < (k : Int) := by omega
    have h12d : decide ((12 : Int) < (k : Int)) = false := decide_eq_false h12i
    obtain ⟨st, hTr⟩ := HI.out
    obtain ⟨st', rv, x0, x1, x2, x3, x4, x5, x6, x7, x8, x9, hsv⟩ := svD_ten st s.n0 s.n1 s.n2 s.n3 s.n4 s.n5 s.n6 s.n7 s.n8 s.n9
    have HSV := hidn hsv
    have hX0 := hTr.x
    obtain ⟨U0, hU0⟩ : ∃ U0 : Nat → Prop, U0 = fun k => w.heap.size ≤ k ∧ k < wr.heap.size := ⟨_, rfl⟩
    rw [← hU0] at hX0
    have hL0 : ∀ k, U0 k → k < wr.heap.size := fun k hk => by rw [hU0] at hk; exact hk.2
    have hw0 := hB.out.size
    obtain ⟨wa, hwa⟩ : ∃ wa, wa = wr.alloc (.cells (tQ s.n0 s.n1 s.n2 s.n3 s.n4 s.n5 s.n6 s.n7 s.n8 s.n9) 58) := ⟨_, rfl⟩
    have hba : Below wr.heap.size wr wa := by rw [hwa]; exact below1 _ _
    have hXa : wa.heap[wr.heap.size]? = some (.cells (tQ s.n0 s.n1 s.n2 s.n3 s.n4 s.n5 s.n6 s.n7 s.n8 s.n9) 58 (0, 0)) := by rw [hwa]; exact heap_alloc_new _ _
    have hsa : wa.heap.size = wr.heap.size + 1 := by rw [hwa, World.size_alloc]
    have hna : ¬ U0 wr.heap.size := fun h => Nat.lt_irrefl _ (hL0 _ h)
    have HSv := hidn (x_save w wa d (40 + 3 * k) y 30 st U0 HT.out (hX0.below hba) (by omega) s.n0 s.n1 s.n2 s.n3 s.n4 s.n5 s.n6 s.n7 s.n8 s.n9 HR0.out st' rv x0 x1 x2 x3 x4 x5 x6 x7 x8 x9 HSV)
    have K0 := hidn (show wa.heap[wr.heap.size]? = some (.cells (tQ s.n0 s.n1 s.n2 s.n3 s.n4 s.n5 s.n6 s.n7 s.n8 s.n9) 58 (0, 0)) ∧ wa.heap.size = wr.heap.size + 1 ∧ ¬ U0 wr.heap.size ∧ (∀ k, U0 k → k < wa.heap.size) ∧ w.heap.size ≤ wr.heap.size from ⟨hXa, hsa, hna, fun k hk => by have := hL0 k hk; omega, hw0⟩)
    clear hsv hTr HI hba hX0 hU0 hL0 hXa hsa hna hw0
    go_wp2_with fail
    rw [← hwa]
    clear hwa c0 c1 c2 c3 c4 c5 c6 c7 c8 c9
    refine HSv.out.mono ?_
    clear HSv
    rintro e w2 ⟨rfl, hX2, hG2⟩
    obtain ⟨hXa, hsa, hna, hL0, hw0⟩ := K0.out
    have hs2 := hG2.1.size
    have hXa2 := (hG2.1.block _ (by omega) hna).trans hXa
    obtain ⟨U2, hU2⟩ : ∃ U2, U2 = upU U0 wa w2 := ⟨_, rfl⟩
    have hL2 : ∀ k, U2 k → k < w2.heap.size := by rw [hU2]; exact up_lt hL0 hs2
    rw [← hU2] at hX2
    obtain ⟨wb, hwb⟩ : ∃ wb, wb = w2.alloc (.cells (tQ x0 x1 x2 x3 x4 x5 x6 x7 x8 x9) 58) := ⟨_, rfl⟩
    have hbb : Below w2.heap.size w2 wb := by rw [hwb]; exact below1 _ _
    have hXb : wb.heap[w2.heap.size]? = some (.cells (tQ x0 x1 x2 x3 x4 x5 x6 x7 x8 x9) 58 (0, 0)) := by rw [hwb]; exact heap_alloc_new _ _
    have hsb : wb.heap.size = w2.heap.size + 1 := by rw [hwb, World.size_alloc]
    have hnb : ¬ U2 w2.heap.size := fun h => Nat.lt_irrefl _ (hL2 _ h)
    have HSvY := hidn (x_saveY w wb d (40 + 3 * k + 2) y 30 st U2 s.n0 s.n1 s.n2 s.n3 s.n4 s.n5 s.n6 s.n7 s.n8 s.n9 st' rv x0 x1 x2 x3 x4 x5 x6 x7 x8 x9 HSV (hX2.below hbb))
    have K2 := hidn (show wb.heap[w2.heap.size]? = some (.cells (tQ x0 x1 x2 x3 x4 x5 x6 x7 x8 x9) 58 (0, 0)) ∧ wb.heap.size = w2.heap.size + 1 ∧ ¬ U2 w2.heap.size ∧ (∀ k, U2 k → k < wb.heap.size) ∧ w.heap.size ≤ w2.heap.size from ⟨hXb, hsb, hnb, fun k hk => by have := hL2 k hk; omega, by omega⟩)
    have hXab := (hbb.block _ (by omega)).trans hXa2
    rw [hwb] at hXab
    obtain ⟨ha0, ha1, ha2, ha3, ha4, ha5, ha6, ha7, ha8, ha9⟩ := ten_cells hXab
    clear hXab hX2 hG2 hU2 hL2 hXb hsb hnb hbb hXa hsa hna hL0 hw0 hXa2 hs2 K0
    go_wp2_with fail
    rw [← hwb]
    clear hwb ha0 ha1 ha2 ha3 ha4 ha5 ha6 ha7 ha8 ha9
    refine HSvY.out.mono ?_
    clear HSvY
    rintro e w3 ⟨rfl, hX3, hG3⟩
    obtain ⟨hXb, hsb, hnb, hL2, hw2⟩ := K2.out
    have hs3 := hG3.1.size
    have hXb3 := (hG3.1.block _ (by omega) hnb).trans hXb
    have hnb3 := hG3.not (b := w2.heap.size) (by omega) hnb
    obtain ⟨U3, hU3⟩ : ∃ U3, U3 = upU U2 wb w3 := ⟨_, rfl⟩
    have hL3 : ∀ k, U3 k → k < w3.heap.size := by rw [hU3]; exact up_lt hL2 hs3
    rw [← hU3] at hX3 hnb3
    obtain ⟨wc, hwc⟩ : ∃ wc, wc = w3.alloc (.cells (tQ x0 x1 x2 x3 x4 x5 x6 x7 x8 x9) 58) := ⟨_, rfl⟩
    have hbc : Below w3.heap.size w3 wc := by rw [hwc]; exact below1 _ _
    have hXc : wc.heap[w3.heap.size]? = some (.cells (tQ x0 x1 x2 x3 x4 x5 x6 x7 x8 x9) 58 (0, 0)) := by rw [hwc]; exact heap_alloc_new _ _
    have hsc : wc.heap.size = w3.heap.size + 1 := by rw [hwc, World.size_alloc]
    have hnc : ¬ U3 w3.heap.size := fun h => Nat.lt_irrefl _ (hL3 _ h)
    have hXbc := (hbc.block w2.heap.size (by omega)).trans hXb3
    have HTc := hidn (hX3.below hbc)
    have K3 := hidn (show wc.heap[w2.heap.size]? = some (.cells (tQ x0 x1 x2 x3 x4 x5 x6 x7 x8 x9) 58 (0, 0)) ∧ wc.heap[w3.heap.size]? = some (.cells (tQ x0 x1 x2 x3 x4 x5 x6 x7 x8 x9) 58 (0, 0)) ∧ wc.heap.size = w3.heap.size + 1 ∧ ¬ U3 w2.heap.size ∧ ¬ U3 w3.heap.size ∧ w2.heap.size < w3.heap.size ∧ w.heap.size ≤ w2.heap.size from ⟨hXbc, hXc, hsc, hnb3, hnc, by omega, hw2⟩)
    rw [hwc] at hXbc hXc
    obtain ⟨hb0, hb1, hb2, hb3, hb4, hb5, hb6, hb7, hb8, hb9⟩ := ten_cells hXbc
    obtain ⟨hd0, hd1, hd2, hd3, hd4, hd5, hd6, hd7, hd8, hd9⟩ := ten_cells hXc
    have hnq := fun wx => neq_anc wx x0 x1 x2 x3 x4 x5 x6 x7 x8 x9
    have hrr : (rv != rv) = false := by simp
    clear hX3 hG3 hU3 hL3 hXc hsc hnc hXbc hbc hXb hsb hnb hL2 hw2 hXb3 hnb3 hs3 K2
    by_cases hst : k < tl
    ·
     have hst2 : (k : Int) < (tl : Int) := by omega
     have hst3 : decide ((k : Int) < (tl : Int)) = true := decide_eq_true hst2
     obtain ⟨t, ht⟩ : ∃ t, more[k]? = some t := ⟨_, lQ6 (by rw [HLs.out]; exact hst)⟩
     obtain ⟨tb, tq, rfl, e0, e1, e2, e3, e4, e5, e6, e7⟩ := HS.out.sts.at2 HTc.out.1 (HS.out.step ht)
     have HOK := hidn (HS.out.2.2.2.1 t (lQ7 ht))
     obtain ⟨m, hm⟩ : ∃ m : Nat, t.s.m6 = (m : Int) := ⟨t.s.m6.toNat, by have := HOK.out.2.2.2.1; omega⟩
     have HMM := hidn hm
     rw [hm] at e6
     rw [hwc] at e0 e1 e2 e3 e4 e5 e6 e7
     clear ht hm
     go_wp2_with fail
     rw [← hwc]
     clear hwc
     refine (do_stepU w wc d (40 + 3 * k + 2) y 30 st' U3 HTc.out (by omega) t HOK.out m HMM.out).mono ?_
     rintro e w4 ⟨rfl, stz, Uz, hT4, hG4⟩
     have HTz : Hid (TwX w w4 d (40 + 3 * (k + 1)) y 30 stz stz Uz) := hidn (hT4.mono (by omega))
     obtain ⟨k1, k2, k3, k4, k5, k6, k7⟩ := K3.out
     have KZ := hidn (show w4.heap[w2.heap.size]? = some (.cells (tQ x0 x1 x2 x3 x4 x5 x6 x7 x8 x9) 58 (0, 0)) ∧ w4.heap[w3.heap.size]? = some (.cells (tQ x0 x1 x2 x3 x4 x5 x6 x7 x8 x9) 58 (0, 0)) ∧ ¬ Uz w2.heap.size ∧ ¬ Uz w3.heap.size ∧ w2.heap.size < w3.heap.size ∧ w.heap.size ≤ w2.heap.size from
      ⟨(hG4.1.block _ (by omega) k4).trans k1, (hG4.1.block _ (by omega) k5).trans k2, hG4.not (by omega) k4, hG4.not (by omega) k5, k6, k7⟩)
     clear hT4 hG4 k1 k2 k3 k4 k5 k6 k7 e0 e1 e2 e3 e4 e5 e6 e7 hb0 hb1 hb2 hb3 hb4 hb5 hb6 hb7 hb8 hb9 hd0 hd1 hd2 hd3 hd4 hd5 hd6 hd7 hd8 hd9 HTc K3
     go_wp2_with fail
     refine (same_any w _ d (40 + 3 * (k + 1)) y 30 stz HTz.out.two (by omega)).mono ?_
     rintro e w5 ⟨rfl, hb5⟩
     have HT5 := hidn (HTz.out.below hb5)
     obtain ⟨kb, kc, knb, knc, kl1, kl2⟩ := KZ.out
     have HY5b := hidn ((hb5.block w2.heap.size (lQ3.1 kb).1).trans kb)
     have HY5c := hidn ((hb5.block w3.heap.size (lQ3.1 kc).1).trans kc)
     have KN := hidn (show ¬ Uz w2.heap.size ∧ ¬ Uz w3.heap.size ∧ w2.heap.size < w3.heap.size ∧ w.heap.size ≤ w2.heap.size from ⟨knb, knc, kl1, kl2⟩)
     clear hb5 HTz KZ kb kc knb knc kl1 kl2
     obtain ⟨hW5, Fd, Fy, hD5, hY5, hFd5, hFy5, hX5, _, _⟩ := HT5.out
     obtain ⟨V5, hV5⟩ := HT5.out.rel
     obtain ⟨v, q0, q1, q2, q3, q4, q5, q6, q7, q8, q9, hLp, hLd⟩ := loads_one stz.M hD5.oks
     have HLP := hidn (hLp w5 d Fd _ stz.free stz.fuse hD5 (HT.out.below hW5) (rel_M0 hV5))
     have HLD := hidn hLd
     clear hW5 hD5 hY5 hFd5 hFy5 hX5 hV5 hLp hLd
     go_wp2_with fail
     refine HLP.out.mono ?_
     clear HLP
     rintro e w6 ⟨rfl, hb6⟩
     have HT6 := hidn (HT5.out.below hb6)
     have HZ6 := hidn ((hb6.block w2.heap.size (lQ3.1 HY5b.out).1).trans HY5b.out)
     have HZ6c := hidn ((hb6.block w3.heap.size (lQ3.1 HY5c.out).1).trans HY5c.out)
     clear hb6 HT5 HY5b HY5c
     simp only []
     go_at_K
     repeat (first
      | (with_reducible refine wpList_store_row (by rfl) 58 (.tmp 12) (.tmp 78) (by rfl) w2.heap.size (tQ q0 q1 q2 q3 q4 q5 q6 q7 q8 q9) (by kernel_rfl) (by kernel_rfl) 58 (tQ x0 x1 x2 x3 x4 x5 x6 x7 x8 x9) HZ6.out (by kernel_rfl) (by kernel_rfl) (by kernel_rfl) ?_)
      | go_values | go_skip | go_guarded | go_step | go_upon)
     obtain ⟨w7, hw7⟩ : ∃ w7, w7 = w6.setRow w2.heap.size (tQ q0 q1 q2 q3 q4 q5 q6 q7 q8 q9) := ⟨_, rfl⟩
     have HX7 : Hid (w7.heap[w2.heap.size]? = some (.cells (tQ q0 q1 q2 q3 q4 q5 q6 q7 q8 q9) 58 (0, 0))) := hidn (by rw [hw7]; exact setRow_heap _ _ _ _ _ _ HZ6.out)
     have HX7c : Hid (w7.heap[w3.heap.size]? = some (.cells (tQ x0 x1 x2 x3 x4 x5 x6 x7 x8 x9) 58 (0, 0))) := hidn (by rw [hw7]; exact (setRow_otherA _ _ _ _ (by have := KN.out.2.2.1; omega)).trans HZ6c.out)
     have HT7 : Hid (TwX w w7 d (40 + 3 * (k + 1)) y 30 stz stz Uz) := hidn (by rw [hw7]; exact x_row HT6.out _ KN.out.1 KN.out.2.2.2 _)
     rw [← hw7]
     clear hw7 HZ6 HZ6c HT6
     obtain ⟨hW7, Fd7, Fy7, hD7, hY7, hFd7, hFy7, hX7, _, _⟩ := HT7.out
     have HLD7 := hidn (HLD.out w7 y Fy7 30 stz rfl hY7 (fun k hk => (hFy7 k hk).2))
     clear hW7 hD7 hY7 hFd7 hFy7 hX7 HLD
     go_wp2_with fail
     refine HLD7.out.mono ?_
     clear HLD7
     rintro e w8 ⟨rfl, hb8⟩
     have HT8 := hidn (HT7.out.below hb8)
     have HX8 := hidn ((hb8.block w2.heap.size (lQ3.1 HX7.out).1).trans HX7.out)
     have HX8c := hidn ((hb8.block w3.heap.size (lQ3.1 HX7c.out).1).trans HX7c.out)
     clear hb8 HT7 HX7 HX7c
     have HX9c : (w8.setRow w3.heap.size (tQ q0 q1 q2 q3 q4 q5 q6 q7 q8 q9)).heap[w3.heap.size]? = some (.cells (tQ q0 q1 q2 q3 q4 q5 q6 q7 q8 q9) 58 (0, 0)) := setRow_heap _ _ _ _ _ _ HX8c.out
     have HX9 : (w8.setRow w3.heap.size (tQ q0 q1 q2 q3 q4 q5 q6 q7 q8 q9)).heap[w2.heap.size]? = some (.cells (tQ q0 q1 q2 q3 q4 q5 q6 q7 q8 q9) 58 (0, 0)) := (setRow_otherA _ _ _ _ (by have := KN.out.2.2.1; omega)).trans HX8.out
     have HT9 : Hid (∃ st, Two w (w8.setRow w3.heap.size (tQ q0 q1 q2 q3 q4 q5 q6 q7 q8 q9)) d (40 + 3 * (k + 1)) y 30 st) := hidn ⟨stz, (x_row HT8.out _ KN.out.2.1 (by have := KN.out; omega) _).two⟩
     obtain ⟨he0, he1, he2, he3, he4, he5, he6, he7, he8, he9⟩ := ten_cells HX9
     obtain ⟨hf0, hf1, hf2, hf3, hf4, hf5, hf6, hf7, hf8, hf9⟩ := ten_cells HX9c
     have hnq2 := fun wx => neq_anc wx q0 q1 q2 q3 q4 q5 q6 q7 q8 q9
     have hvv : (v != v) = false := by simp
     clear HX9 HX9c HX8 HT8
     simp only []
     go_at_K
     repeat (first
      | (with_reducible refine wpList_store_row (by rfl) 58 (.tmp 14) (.tmp 83) (by rfl) w3.heap.size (tQ q0 q1 q2 q3 q4 q5 q6 q7 q8 q9) (by kernel_rfl) (by kernel_rfl) 58 (tQ x0 x1 x2 x3 x4 x5 x6 x7 x8 x9) HX8c.out (by kernel_rfl) (by kernel_rfl) (by kernel_rfl) ?_)
      | go_values | go_skip | go_guarded | go_step | go_upon)
     go_wp2
     go_roundw
     case rel => exact ⟨k + 1, hlt, by omega, by simp, HT9⟩
     case measure => simp [intOf]; omega
    ·
     have hst2 : ¬ (k : Int) < (tl : Int) := by omega
     have hst3 : decide ((k : Int) < (tl : Int)) = false := decide_eq_false hst2
     go_wp2_with fail
     rw [← hwc]
     clear hwc
     obtain ⟨stz, hstz⟩ : ∃ stz, stz = st' := ⟨_, rfl⟩
     obtain ⟨Uz, hUz⟩ : ∃ Uz, Uz = U3 := ⟨_, rfl⟩
     have HTz : Hid (TwX w wc d (40 + 3 * (k + 1)) y 30 stz stz Uz) := hidn (by rw [hstz, hUz]; exact HTc.out.mono (by omega))
     obtain ⟨k1, k2, k3, k4, k5, k6, k7⟩ := K3.out
     have KZ := hidn (show wc.heap[w2.heap.size]? = some (.cells (tQ x0 x1 x2 x3 x4 x5 x6 x7 x8 x9) 58 (0, 0)) ∧ wc.heap[w3.heap.size]? = some (.cells (tQ x0 x1 x2 x3 x4 x5 x6 x7 x8 x9) 58 (0, 0)) ∧ ¬ Uz w2.heap.size ∧ ¬ Uz w3.heap.size ∧ w2.heap.size < w3.heap.size ∧ w.heap.size ≤ w2.heap.size from
      ⟨k1, k2, by rw [hUz]; exact k4, by rw [hUz]; exact k5, k6, k7⟩)
     clear hstz hUz k1 k2 k3 k4 k5 k6 k7 hb0 hb1 hb2 hb3 hb4 hb5 hb6 hb7 hb8 hb9 hd0 hd1 hd2 hd3 hd4 hd5 hd6 hd7 hd8 hd9 HTc K3
     refine (same_any w _ d (40 + 3 * (k + 1)) y 30 stz HTz.out.two (by omega)).mono ?_
     rintro e w5 ⟨rfl, hb5⟩
     have HT5 := hidn (HTz.out.below hb5)
     obtain ⟨kb, kc, knb, knc, kl1, kl2⟩ := KZ.out
     have HY5b := hidn ((hb5.block w2.heap.size (lQ3.1 kb).1).trans kb)
     have HY5c := hidn ((hb5.block w3.heap.size (lQ3.1 kc).1).trans kc)
     have KN := hidn (show ¬ Uz w2.heap.size ∧ ¬ Uz w3.heap.size ∧ w2.heap.size < w3.heap.size ∧ w.heap.size ≤ w2.heap.size from ⟨knb, knc, kl1, kl2⟩)
     clear hb5 HTz KZ kb kc knb knc kl1 kl2
     obtain ⟨hW5, Fd, Fy, hD5, hY5, hFd5, hFy5, hX5, _, _⟩ := HT5.out
     obtain ⟨V5, hV5⟩ := HT5.out.rel
     obtain ⟨v, q0, q1, q2, q3, q4, q5, q6, q7, q8, q9, hLp, hLd⟩ := loads_one stz.M hD5.oks
     have HLP := hidn (hLp w5 d Fd _ stz.free stz.fuse hD5 (HT.out.below hW5) (rel_M0 hV5))
     have HLD := hidn hLd
     clear hW5 hD5 hY5 hFd5 hFy5 hX5 hV5 hLp hLd
     go_wp2_with fail
     refine HLP.out.mono ?_
     clear HLP
     rintro e w6 ⟨rfl, hb6⟩
     have HT6 := hidn (HT5.out.below hb6)
     have HZ6 := hidn ((hb6.block w2.heap.size (lQ3.1 HY5b.out).1).trans HY5b.out)
     have HZ6c := hidn ((hb6.block w3.heap.size (lQ3.1 HY5c.out).1).trans HY5c.out)
     clear hb6 HT5 HY5b HY5c
     simp only []
     go_at_K
     repeat (first
      | (with_reducible refine wpList_store_row (by rfl) 58 (.tmp 12) (.tmp 78) (by rfl) w2.heap.size (tQ q0 q1 q2 q3 q4 q5 q6 q7 q8 q9) (by kernel_rfl) (by kernel_rfl) 58 (tQ x0 x1 x2 x3 x4 x5 x6 x7 x8 x9) HZ6.out (by kernel_rfl) (by kernel_rfl) (by kernel_rfl) ?_)
      | go_values | go_skip | go_guarded | go_step | go_upon)
     obtain ⟨w7, hw7⟩ : ∃ w7, w7 = w6.setRow w2.heap.size (tQ q0 q1 q2 q3 q4 q5 q6 q7 q8 q9) := ⟨_, rfl⟩
     have HX7 : Hid (w7.heap[w2.heap.size]? = some (.cells (tQ q0 q1 q2 q3 q4 q5 q6 q7 q8 q9) 58 (0, 0))) := hidn (by rw [hw7]; exact setRow_heap _ _ _ _ _ _ HZ6.out)
     have HX7c : Hid (w7.heap[w3.heap.size]? = some (.cells (tQ x0 x1 x2 x3 x4 x5 x6 x7 x8 x9) 58 (0, 0))) := hidn (by rw [hw7]; exact (setRow_otherA _ _ _ _ (by have := KN.out.2.2.1; omega)).trans HZ6c.out)
     have HT7 : Hid (TwX w w7 d (40 + 3 * (k + 1)) y 30 stz stz Uz) := hidn (by rw [hw7]; exact x_row HT6.out _ KN.out.1 KN.out.2.2.2 _)
     rw [← hw7]
     clear hw7 HZ6 HZ6c HT6
     obtain ⟨hW7, Fd7, Fy7, hD7, hY7, hFd7, hFy7, hX7, _, _⟩ := HT7.out
     have HLD7 := hidn (HLD.out w7 y Fy7 30 stz rfl hY7 (fun k hk => (hFy7 k hk).2))
     clear hW7 hD7 hY7 hFd7 hFy7 hX7 HLD
     go_wp2_with fail
     refine HLD7.out.mono ?_
     clear HLD7
     rintro e w8 ⟨rfl, hb8⟩
     have HT8 := hidn (HT7.out.below hb8)
     have HX8 := hidn ((hb8.block w2.heap.size (lQ3.1 HX7.out).1).trans HX7.out)
     have HX8c := hidn ((hb8.block w3.heap.size (lQ3.1 HX7c.out).1).trans HX7c.out)
     clear hb8 HT7 HX7 HX7c
     have HX9c : (w8.setRow w3.heap.size (tQ q0 q1 q2 q3 q4 q5 q6 q7 q8 q9)).heap[w3.heap.size]? = some (.cells (tQ q0 q1 q2 q3 q4 q5 q6 q7 q8 q9) 58 (0, 0)) := setRow_heap _ _ _ _ _ _ HX8c.out
     have HX9 : (w8.setRow w3.heap.size (tQ q0 q1 q2 q3 q4 q5 q6 q7 q8 q9)).heap[w2.heap.size]? = some (.cells (tQ q0 q1 q2 q3 q4 q5 q6 q7 q8 q9) 58 (0, 0)) := (setRow_otherA _ _ _ _ (by have := KN.out.2.2.1; omega)).trans HX8.out
     have HT9 : Hid (∃ st, Two w (w8.setRow w3.heap.size (tQ q0 q1 q2 q3 q4 q5 q6 q7 q8 q9)) d (40 + 3 * (k + 1)) y 30 st) := hidn ⟨stz, (x_row HT8.out _ KN.out.2.1 (by have := KN.out; omega) _).two⟩
     obtain ⟨he0, he1, he2, he3, he4, he5, he6, he7, he8, he9⟩ := ten_cells HX9
     obtain ⟨hf0, hf1, hf2, hf3, hf4, hf5, hf6, hf7, hf8, hf9⟩ := ten_cells HX9c
     have hnq2 := fun wx => neq_anc wx q0 q1 q2 q3 q4 q5 q6 q7 q8 q9
     have hvv : (v != v) = false := by simp
     clear HX9 HX9c HX8 HT8
     simp only []
     go_at_K
     repeat (first
      | (with_reducible refine wpList_store_row (by rfl) 58 (.tmp 14) (.tmp 83) (by rfl) w3.heap.size (tQ q0 q1 q2 q3 q4 q5 q6 q7 q8 q9) (by kernel_rfl) (by kernel_rfl) 58 (tQ x0 x1 x2 x3 x4 x5 x6 x7 x8 x9) HX8c.out (by kernel_rfl) (by kernel_rfl) (by kernel_rfl) ?_)
      | go_values | go_skip | go_guarded | go_step | go_upon)
     go_wp2
     go_roundw
     case rel => exact ⟨k + 1, hlt, by omega, by simp, HT9⟩
     case measure => simp [intOf]; omega
  ·
   have hlt2 : ¬ (k : Int) < (ml : Int) := by omega
   go_wp2_with fail
   refine (awake17_any _ (HT.out.below hB.out)).mono ?_
   rintro e w2 ⟨rfl, hb2⟩
   have HB2 := hidn (hB.out.trans (hb2.mono hB.out.size))
   clear hb2
   go_wp2
   go_ret
   exact ⟨rfl, HB2.out⟩
end Go.Proofs.YtdppolelakbbiaaGreatDoor
