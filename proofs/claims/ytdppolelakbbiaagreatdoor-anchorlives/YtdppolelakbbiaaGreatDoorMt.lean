/- The walk of the document's Frame. -/
import Derived.Test.YtdppolelakbbiaaGreatDoorMk
import Derived.Laws.AppendOwnNone
namespace Go.Proofs.YtdppolelakbbiaaGreatDoor
open Go.RowKit
set_option linter.unusedVariables false
theorem wpList_app {w : World} {ops : Array Oper} {rest : List Oper} {o : Oper} {a : Act} {Q : Exit → Act → World → Prop} (hgd : o.guard = none) (s x : Operand)
  (ho : o.op = .call { callee := .builtin .append, args := #[s, x], argTypes := #[28, 28] }) (B : Nat) (w0 : World) (v : Value) (n : Nat) (l : List Nat) (hs : a.eval s = v) (hown : w.ownsRow B 5 1 v n (vb l))
  (sa : Option Addr) (m c : Nat) (z : List Nat) (hx : a.eval x = .slice sa m c) (hnil : sa = none → c = 0) (hB : Bs w sa m z) (n' : Nat) (l' : List Nat) (hn' : n + m = n') (hl' : Hid (l' = l ++ z)) (hm : n' ≤ 100000) (hbase : B ≤ w.heap.size) (hb : Below B w0 w)
  (h : ∀ v' w', Hid (w'.ownsRow B 5 1 v' n' (vb l')) → Below B w0 w' → wpList Tryz.prog ops Q rest (a.put o.dst v') w') : wpList Tryz.prog ops Q (o :: rest) a w := by
 obtain ⟨i0, hi, hz0, hz1, hz2⟩ := info_parts Tryz.info5
 subst hn'
 rw [hl'.out] at h
 have hvb : vb (l ++ z) = vb l ++ vb z := by simp [vb]
 cases sa with
 | none =>
  obtain rfl := hnil rfl
  obtain rfl := hB.2.2.2.1 rfl
  obtain rfl : z = [] := List.length_eq_zero_iff.1 hB.1
  refine wpList_append_own_none hgd s x 28 ho B 5 i0 1 Tryz.underlying28 hi v n (vb l) hs hown hx ?_
  exact h v w (hid (by simpa using hown)) hb
 | some ad =>
  refine wpList_append_own w hgd s x 28 ho B 5 i0 (.int .u8 0) 1 1 Tryz.underlying28 hi hz0 hz1 hz2 rfl (by decide) v n (vb l) hs hown ad m c (vb z) hx (by rw [length_vb, hB.1, Nat.mul_one]) ?_ (one_vb z) (by unfold maxLen; omega) (by omega) hbase ?_
  ·
   intro j u hj
   have hlt : j < z.length := by have := (lQ4.1 hj).1; rwa [length_vb] at this
   rw [vb_getD z j hlt] at hj
   rw [hB.2.2.2.2 ad rfl j (by rw [← hB.1]; exact hlt)]
   exact hj
  ·
   intro v' w' hown' hgrow _
   refine h v' w' (by rw [hvb]; exact hown') (hb.grown hgrow hbase ?_)
   intro g hg
   rcases hown.2 with ⟨rfl, _⟩ | ⟨g', cap', cur, rfl, hg', _⟩
   ·
    simp [Value.ownBlock] at hg
   ·
    simp [Value.ownBlock] at hg; omega
theorem bs_one (w : World) (x : Nat) (hx : x < 256) : Bs (w.alloc (.cells #[.int .u8 (x : Int)] 5)) (some ⟨w.heap.size, 0, none⟩) 1 [x] := by
 refine ⟨rfl, by decide, by simpa using hx, (fun h => by simp at h), fun y hy j hj => ?_⟩
 cases hy
 obtain rfl : j = 0 := by omega
 simp [Addr.add]
theorem le_alloc {B : Nat} {w : World} (h : B ≤ w.heap.size) (o : Obj) : B ≤ (w.alloc o).heap.size := by simp; omega
theorem nil_some (x : Addr) (c : Nat) : some x = none → c = 0 := fun h => by cases h
theorem refPut_named (n k : Nat) (wd : Int) (P : List Nat) (w : World) (hn : n < 18446744073709551616) (hk : k ≤ 8) (hw : wd = k) (hP : Hid (P = putB n k)) :
  Calls Tryz.prog 91 #[.int .u64 n, .int .i64 wd] w fun e w' => e = .returned (.slice (some ⟨w.heap.size, 0, none⟩) k k) ∧ Bs w' (some ⟨w.heap.size, 0, none⟩) k P ∧ Below w.heap.size w w' := by
 rw [hP.out]
 refine (refPut_any n wd k w hn (by omega)).mono ?_
 rintro e w' ⟨he, hown, hb⟩
 obtain ⟨a, c, hv, hB⟩ := bs_of_own hown (putB_lt k n)
 cases hv
 exact ⟨he, hB, hb⟩
theorem own_form {w : World} {base n : Nat} {v : Value} {l : List Nat} (h : Hid (w.ownsRow base 5 1 v n (vb l))) (hn : 0 < n) : ∃ g cap, v = .slice (some ⟨g, 0, none⟩) n cap ∧ base ≤ g ∧ n ≤ cap ∧ cap ≤ maxLen := by
 rcases h.out.2 with ⟨_, h0⟩ | ⟨g, cap, cur, hv, hg, hh, hnc, hcm, _⟩
 ·
  omega
 ·
  exact ⟨g, cap, hv, hg, hnc, hcm⟩
set_option maxHeartbeats 1000000 in
theorem refFrame_yes (s : ByteArray) (i g : Nat) (a : Option Addr) (len cap : Nat) (p : List Nat) (w : World) (hB : Bs w a len p) (hnil : a = none → cap = 0) (hsm : s.size ≤ maxLen) (hi : i ≤ 2147483647) (hg : g ≤ 4611686018427387904) (hl : len ≤ 106)
  (n0 : Nat) (HN0 : Hid (n0 = crcM 0 (nums s))) (P1 P2 P3 L1 L2 L3 L4 L5 : List Nat) (HL1 : Hid (L1 = [229] ++ P1)) (HL2 : Hid (L2 = L1 ++ P2)) (HL3 : Hid (L3 = L2 ++ P3)) (HL4 : Hid (L4 = L3 ++ [len])) (HL5 : Hid (L5 = L4 ++ p)) (n5 : Nat) (hn5 : 18 + len = n5) (HP1 : Hid (P1 = putB n0 4)) (HP2 : Hid (P2 = putB i 4)) (HP3 : Hid (P3 = putB g 8)) :
  Calls Tryz.prog 46 #[.string s, .int .i64 i, .int .i64 g, .slice a len cap] w fun e w' => ∃ v, e = .returned (.tuple #[v, .int .i64 0]) ∧ w'.ownsRow w.heap.size 5 1 v 128 (vb (frameB (nums s) i g p)) ∧ Below w.heap.size w w' := by
 have hcv := fun (wx : World) => Lib.run_convert_string_bytes (P := Tryz.prog) wx 9 28 5 s Tryz.underlying9 Tryz.underlying28 Tryz.underlying5
 have h1 : ¬ ((i : Int) < 0) := by omega
 have h2 : ¬ (2147483647 < (i : Int)) := by omega
 have h3 : ¬ ((g : Int) < 0) := by omega
 have h4 : ¬ (4611686018427387904 < (g : Int)) := by omega
 have h5 : ¬ (106 < (len : Int)) := by omega
 have hl256 : len < 256 := by omega
 have hn5' : n5 ≤ 100000 := by omega
 have hn50 : 0 < n5 := by omega
 have h64 : n0 < 18446744073709551616 := by rw [HN0.out]; exact Nat.lt_trans (crcM_lt _ _) (by decide)
 have hwn : IntKind.u64.wrap (n0 : Int) = (n0 : Int) := wrap_u_lt .u64 rfl _ h64
 have hwi : IntKind.u64.wrap (i : Int) = (i : Int) := wrap_u_lt .u64 rfl _ (by show i < 18446744073709551616; omega)
 have hwg : IntKind.u64.wrap (g : Int) = (g : Int) := wrap_u_lt .u64 rfl _ (by show g < 18446744073709551616; omega)
 have hwl : IntKind.u8.wrap (len : Int) = (len : Int) := wrap_u_lt .u8 rfl _ (by show len < 256; omega)
 go_enter Tryz.func46, Tryz.ntmps46
 go_wp2_with fail
 have hb1 : Below w.heap.size w (w.alloc (.cells #[.int .u8 229] 5)) := (Below.refl _ _).alloc (Nat.le_refl _) _
 have hown1 : (w.alloc (.cells #[.int .u8 229] 5)).ownsRow w.heap.size 5 1 (.slice (some ⟨w.heap.size, 0, none⟩) 1 1) 1 (vb [229]) := World.ownsRow_lit (base := w.heap.size) (e := 5) (size := 1) w #[.int .u8 229] 1 (Nat.le_refl _) (by decide) rfl
 have hs1 : (w.alloc (.cells #[.int .u8 229] 5)).heap.size = w.heap.size + 1 := by simp
 generalize hw1 : w.alloc (.cells #[.int .u8 229] 5) = w1 at *
 rw [← hs1]
 have hbs := bs_nums w1 s hsm
 refine (refSum_any (some ⟨w1.heap.size, 0, none⟩) s.size _ (nums s) _ hbs).mono ?_
 rw [← HN0.out]
 rintro e w2 ⟨rfl, rfl⟩
 clear hbs hcv hw1
 have hbw := below_bytes w1 s
 have hb2 : Below w.heap.size w (Lib.bytesWorld w1 5 s) := hb1.trans (hbw.mono (by omega))
 have hown2 := own_of_below hown1 hbw
 clear hown1 hbw hs1
 generalize Lib.bytesWorld w1 5 s = w2 at *
 go_wp2_with fail
 refine (refPut_named n0 4 4 P1 w2 h64 (by decide) rfl HP1).mono ?_
 rintro e w3 ⟨rfl, hB3, hb3⟩
 have hown3 := own_of_below hown2 hb3
 have hb3' : Below w.heap.size w w3 := hb2.trans (hb3.mono hb2.size)
 clear hown2
 go_wp2_with (at_builtin; refine wpList_app rfl _ _ rfl w.heap.size w _ 1 [229] rfl hown3 _ 4 4 P1 rfl (nil_some _ _) hB3 5 L1 rfl HL1 (by decide) hb3'.size hb3' ?_; intro v4 w4 hown4 hb4)
 obtain ⟨g4, c4, rfl, hg4, hn4, hm4⟩ := own_form hown4 (by omega)
 clear hown3 hB3 hb3 hb3'
 refine (refPut_named i 4 4 P2 w4 (by omega) (by decide) rfl HP2).mono ?_
 rintro e w5 ⟨rfl, hB5, hb5⟩
 have hown5 := own_of_below hown4.out hb5
 have hb5' : Below w.heap.size w w5 := hb4.trans (hb5.mono hb4.size)
 clear hown4
 go_wp2_with (at_builtin; refine wpList_app rfl _ _ rfl w.heap.size w _ 5 L1 rfl hown5 _ 4 4 P2 rfl (nil_some _ _) hB5 9 L2 rfl HL2 (by decide) hb5'.size hb5' ?_; intro v6 w6 hown6 hb6)
 obtain ⟨g6, c6, rfl, hg6, hn6, hm6⟩ := own_form hown6 (by omega)
 clear hown5 hB5 hb5 hb5'
 refine (refPut_named g 8 8 P3 w6 (by omega) (by decide) rfl HP3).mono ?_
 rintro e w7 ⟨rfl, hB7, hb7⟩
 have hown7 := own_of_below hown6.out hb7
 have hb7' : Below w.heap.size w w7 := hb6.trans (hb7.mono hb6.size)
 clear hown6
 have hB7' := hB.below hb7'
 go_wp2_with (first
  | (at_builtin; refine wpList_app rfl _ _ rfl w.heap.size w _ 9 L2 rfl hown7 _ 8 8 P3 rfl (nil_some _ _) hB7 17 L3 rfl HL3 (by decide) hb7'.size hb7' ?_; intro v8 w8 hown8 hb8; obtain ⟨g8, c8, rfl, hg8, hn8, hm8⟩ := own_form hown8 (by omega))
  | (at_builtin; refine wpList_app rfl _ _ rfl w.heap.size w _ 17 L3 rfl (hown8.out.alloc _) _ 1 1 [len] rfl (nil_some _ _) (bs_one w8 len hl256) 18 L4 rfl HL4 (by decide) (le_alloc hb8.size _) (hb8.alloc hb8.size _) ?_; intro v9 w9 hown9 hb9; obtain ⟨g9, c9, rfl, hg9, hn9, hm9⟩ := own_form hown9 (by omega))
  | (at_builtin; refine wpList_app rfl _ _ rfl w.heap.size w _ 18 L4 rfl hown9.out a len cap p rfl hnil (hB.below hb9) n5 L5 hn5 HL5 hn5' hb9.size hb9 ?_; intro v10 w10 hown10 hb10; obtain ⟨g10, c10, rfl, hg10, hn10, hm10⟩ := own_form hown10 (by omega)))
 clear hb1 hb2 hb4 hb6 hb7 hb7' hb8 hb9 hB7 hB7' hown7 hown8 hown9 hg4 hn4 hm4 hg6 hn6 hm6 hg8 hn8 hm8 hg9 hn9 hm9
 have hn5b : n5 ≤ 124 := by omega
 have HN5 : Hid (18 + len = n5) := hn5
 clear hn5
 go_loopw [10] (fun v wr => ∃ (nn gg cc : Nat) (Lk : List Nat), v = .slice (some ⟨gg, 0, none⟩) nn cc ∧ n5 ≤ nn ∧ nn ≤ 124 ∧ Hid (Lk = L5 ++ List.replicate (nn - n5) 0) ∧ Hid (wr.ownsRow w.heap.size 5 1 (.slice (some ⟨gg, 0, none⟩) nn cc) nn (vb Lk)) ∧ Below w.heap.size w wr)
  (fun v _ => match v with | .slice _ n _ => 124 - n | _ => 0)
 case atStart => exact ⟨n5, g10, c10, L5, rfl, Nat.le_refl _, hn5b, hid (by simp), hown10, hb10⟩
 case round =>
  obtain ⟨nn, gg, cc, Lk, rfl, hnn, hn124, HLk, HO, hbr⟩ := hrel
  clear hown10 hb10
  by_cases hlt : nn < 124
  ·
   have hlt' : (nn : Int) < 124 := by omega
   obtain ⟨n', hn'⟩ : ∃ n', nn + 1 = n' := ⟨_, rfl⟩
   obtain ⟨Lj, hLj⟩ : ∃ Lj, Lj = Lk ++ [0] := ⟨_, rfl⟩
   have HLj : Hid (Lj = Lk ++ [0]) := hLj
   have HN' : Hid (nn + 1 = n') := hn'
   have hn1 : n' ≤ 100000 := by omega
   have hn0' : 0 < n' := by omega
   clear hLj hn'
   go_wp2_with (at_builtin; refine wpList_app rfl _ _ rfl w.heap.size w _ nn Lk rfl (HO.out.alloc _) _ 1 1 [0] rfl (nil_some _ _) (bs_one wr 0 (by decide)) n' Lj HN'.out HLj hn1 (le_alloc hbr.size _) (hbr.alloc hbr.size _) ?_; intro v12 w12 hown12 hb12; obtain ⟨g12, c12, rfl, hg12, hn12, hm12⟩ := own_form hown12 hn0')
   go_roundw
   case rel =>
    refine ⟨n', g12, c12, Lj, rfl, by have := HN'.out; omega, by have := HN'.out; omega, hid ?_, hown12, hb12⟩
    have := HN'.out
    rw [HLj.out, HLk.out, List.append_assoc, show n' - n5 = (nn - n5) + 1 by omega, List.replicate_succ']
   case measure => have := HN'.out; simp; omega
  ·
   obtain rfl : nn = 124 := by omega
   have hLh : Lk = headB (nums s) i g p := by
    have hpl := hB.1
    have := HN5.out
    rw [HLk.out, HL5.out, HL4.out, HL3.out, HL2.out, HL1.out, HP1.out, HP2.out, HP3.out, HN0.out, headB, preB, hpl, show 124 - n5 = 106 - len by omega]
    simp
   have hz : ∀ x ∈ Lk, x < 256 := by rw [hLh]; exact headB_lt _ _ _ _ (by rw [hB.1]; exact hl) hB.2.2.1
   have HLH : Hid (Lk = headB (nums s) i g p) := hLh
   clear hLh
   obtain ⟨a1, k1, hv1, hB1⟩ := bs_of_own HO.out hz
   cases hv1
   obtain ⟨n1, hn1⟩ : ∃ n1, n1 = crcM 0 Lk := ⟨_, rfl⟩
   have HN1 : Hid (n1 = crcM 0 Lk) := hn1
   obtain ⟨P4, hP4⟩ : ∃ P4, P4 = putB n1 4 := ⟨_, rfl⟩
   have HP4 : Hid (P4 = putB n1 4) := hP4
   obtain ⟨L6, hL6⟩ : ∃ L6, L6 = Lk ++ P4 := ⟨_, rfl⟩
   have HL6 : Hid (L6 = Lk ++ P4) := hL6
   have h641 : n1 < 18446744073709551616 := by rw [hn1]; exact Nat.lt_trans (crcM_lt _ _) (by decide)
   have hwn1 : IntKind.u64.wrap (n1 : Int) = (n1 : Int) := wrap_u_lt .u64 rfl _ h641
   clear hn1 hP4 hL6
   go_wp2_with fail
   refine (refSum_any (some ⟨gg, 0, none⟩) 124 cc Lk _ hB1).mono ?_
   rw [← HN1.out]
   rintro e w13 ⟨rfl, rfl⟩
   go_wp2_with fail
   refine (refPut_named n1 4 4 P4 _ h641 (by decide) rfl HP4).mono ?_
   rintro e w14 ⟨rfl, hB14, hb14⟩
   have hown14 := own_of_below HO.out hb14
   have hb14' : Below w.heap.size w w14 := hbr.trans (hb14.mono hbr.size)
   go_wp2_with (at_builtin; refine wpList_app rfl _ _ rfl w.heap.size w _ 124 Lk rfl hown14 _ 4 4 P4 rfl (nil_some _ _) hB14 128 L6 rfl HL6 (by decide) hb14'.size hb14' ?_; intro v15 w15 hown15 hb15)
   go_ret2
   refine ⟨v15, rfl, ?_, hb15⟩
   have e : L6 = frameB (nums s) i g p := by rw [HL6.out, HP4.out, HN1.out, HLH.out, frameB]
   rw [← e]; exact hown15.out
theorem refFrame_ok (s : ByteArray) (I G : Int) (i g : Nat) (hI : I = i) (hG : G = g) (a : Option Addr) (len cap : Nat) (p : List Nat) (w : World) (hB : Bs w a len p) (hnil : a = none → cap = 0) (hsm : s.size ≤ maxLen) (hi : i ≤ 2147483647) (hg : g ≤ 4611686018427387904) (hl : len ≤ 106) :
  Calls Tryz.prog 46 #[.string s, .int .i64 I, .int .i64 G, .slice a len cap] w fun e w' => ∃ v, e = .returned (.tuple #[v, .int .i64 0]) ∧ w'.ownsRow w.heap.size 5 1 v 128 (vb (frameB (nums s) i g p)) ∧ Below w.heap.size w w' := by
 subst hI; subst hG
 exact refFrame_yes s i g a len cap p w hB hnil hsm hi hg hl _ (hid rfl) _ _ _ _ _ _ _ _ (hid rfl) (hid rfl) (hid rfl) (hid rfl) (hid rfl) _ rfl (hid rfl) (hid rfl) (hid rfl)
set_option maxHeartbeats 1000000 in
theorem refFrame_no (s : ByteArray) (i g : Int) (a : Option Addr) (len cap : Nat) (w : World) (hc : canB i g len = false) :
  Calls Tryz.prog 46 #[.string s, .int .i64 i, .int .i64 g, .slice a len cap] w fun e w' => e = .returned (.tuple #[.slice none 0 0, .int .i64 1]) ∧ Below w.heap.size w w' := by
 have hc' := of_decide_eq_false hc
 have HC : Hid (¬ (0 ≤ i ∧ i ≤ 2147483647 ∧ 0 ≤ g ∧ g ≤ 4611686018427387904 ∧ len ≤ 106)) := hc'
 clear hc hc'
 by_cases h1 : i < 0
 ·
  go_enter Tryz.func46, Tryz.ntmps46
  go_wp2
  go_ret2
  exact ⟨rfl, Below.refl _ _⟩
 ·
  by_cases h2 : 2147483647 < i
  ·
   go_enter Tryz.func46, Tryz.ntmps46
   go_wp2
   go_ret2
   exact ⟨rfl, Below.refl _ _⟩
  ·
   by_cases h3 : g < 0
   ·
    go_enter Tryz.func46, Tryz.ntmps46
    go_wp2
    go_ret2
    exact ⟨rfl, Below.refl _ _⟩
   ·
    by_cases h4 : 4611686018427387904 < g
    ·
     go_enter Tryz.func46, Tryz.ntmps46
     go_wp2
     go_ret2
     exact ⟨rfl, Below.refl _ _⟩
    ·
     have h5 : (106 : Int) < (len : Int) := by
      have := HC.out
      omega
     go_enter Tryz.func46, Tryz.ntmps46
     go_wp2
     go_ret2
     exact ⟨rfl, Below.refl _ _⟩
end Go.Proofs.YtdppolelakbbiaaGreatDoor

namespace Go.Proofs.YtdppolelakbbiaaGreatDoor
open Go.RowKit
set_option linter.unusedVariables false
theorem refFrame_bs (s : ByteArray) (I G : Int) (i g : Nat) (hI : I = i) (hG : G = g) (a : Option Addr) (len cap : Nat) (p : List Nat) (w : World) (hB : Bs w a len p) (hnil : a = none → cap = 0) (hsm : s.size ≤ maxLen) (hi : i ≤ 2147483647) (hg : g ≤ 4611686018427387904) (hl : len ≤ 106) (fz : List Nat) (HF : Hid (fz = frameB (nums s) i g p)) :
  Calls Tryz.prog 46 #[.string s, .int .i64 I, .int .i64 G, .slice a len cap] w fun e w' => ∃ a' c', e = .returned (.tuple #[.slice a' 128 c', .int .i64 0]) ∧ Bs w' a' 128 fz ∧ Below w.heap.size w w' := by
 refine (refFrame_ok s I G i g hI hG a len cap p w hB hnil hsm hi hg hl).mono ?_
 rintro e w' ⟨v, he, hown, hb⟩
 obtain ⟨a', c', rfl, hB'⟩ := bs_of_own hown (frameB_lt _ _ _ _ (by rw [hB.1]; exact hl) hB.2.2.1)
 rw [← HF.out] at hB'
 exact ⟨a', c', he, hB', hb⟩
end Go.Proofs.YtdppolelakbbiaaGreatDoor

namespace Go.Proofs.YtdppolelakbbiaaGreatDoor
open Go.RowKit
set_option linter.unusedVariables false
set_option maxHeartbeats 1000000 in
theorem refOpen_short (s : ByteArray) (i : Int) (a : Option Addr) (len cap : Nat) (w : World) (hl : len ≠ 128) :
  Calls Tryz.prog 75 #[.slice a len cap, .string s, .int .i64 i] w fun e w' => e = .returned (.tuple #[.slice none 0 0, .int .i64 0, .int .i64 40]) ∧ Below w.heap.size w w' := by
 have h1 : ((len : Int) != 128) = true := bne_iff_ne.2 (by omega)
 go_enter Tryz.func75, Tryz.ntmps75
 go_wp2
 go_ret3
 exact ⟨rfl, Below.refl _ _⟩
set_option maxHeartbeats 1000000 in
theorem refOpen_long (s : ByteArray) (i : Int) (b off cap ln : Nat) (zs : List Nat) (w : World) (hB : Bs w (some ⟨b, off, none⟩) 128 zs) (hcap : 128 ≤ cap) (HL : Hid (ln = zs.getD 17 0)) (hln : 106 < ln) :
  Calls Tryz.prog 75 #[.slice (some ⟨b, off, none⟩) 128 cap, .string s, .int .i64 i] w fun e w' => e = .returned (.tuple #[.slice none 0 0, .int .i64 0, .int .i64 40]) ∧ Below w.heap.size w w' := by
 have h17 := hB.at 17 (by omega)
 rw [← HL.out] at h17
 have h1 : (106 : Int) < (ln : Int) := by omega
 go_enter Tryz.func75, Tryz.ntmps75
 go_wp2
 go_ret3
 exact ⟨rfl, Below.refl _ _⟩
set_option maxHeartbeats 1000000 in
theorem refOpen_gen (s : ByteArray) (i : Int) (b off cap ln n : Nat) (zs z9 : List Nat) (w : World) (hB : Bs w (some ⟨b, off, none⟩) 128 zs) (hcap : 128 ≤ cap) (HL : Hid (ln = zs.getD 17 0)) (hln : ln ≤ 106)
  (H9 : Hid (z9 = (zs.drop 9).take 8)) (HN : Hid (n = getB 0 z9)) (hn : 4611686018427387904 < n) :
  Calls Tryz.prog 75 #[.slice (some ⟨b, off, none⟩) 128 cap, .string s, .int .i64 i] w fun e w' => e = .returned (.tuple #[.slice none 0 0, .int .i64 0, .int .i64 40]) ∧ Below w.heap.size w w' := by
 have h17 := hB.at 17 (by omega)
 rw [← HL.out] at h17
 have h9 := hB.part 9 8 (by omega)
 rw [← H9.out] at h9
 have h1 : ¬ ((106 : Int) < (ln : Int)) := by omega
 have h2 : (4611686018427387904 : Int) < (n : Int) := by omega
 go_enter Tryz.func75, Tryz.ntmps75
 go_wp2_with fail
 refine (refGet_some b (off + 9) 8 (cap - 9) z9 _ h9.2.2.1 h9.1.symm (by omega) (by omega) (fun j hj => h9.at j hj)).mono ?_
 rw [← HN.out]
 rintro e w1 ⟨rfl, rfl⟩
 go_wp2
 go_ret3
 exact ⟨rfl, Below.refl _ _⟩
theorem own_bs {w : World} {base n : Nat} {v : Value} {l : List Nat} (h : Hid (w.ownsRow base 5 1 v n (vb l))) (hz : ∀ x ∈ l, x < 256) : ∃ a c, v = .slice a n c ∧ Bs w a n l ∧ (a = none → c = 0) := by
 obtain ⟨a, c, rfl, hB⟩ := bs_of_own h.out hz
 refine ⟨a, c, rfl, hB, ?_⟩
 rintro rfl
 rcases h.out.2 with ⟨h1, _⟩ | ⟨g, cap, cur, hv, _⟩
 ·
  simp only [Value.slice.injEq] at h1; exact h1.2.2
 ·
  cases hv
set_option maxHeartbeats 1000000 in
theorem refOpen_cannot (s : ByteArray) (i : Int) (b off cap ln n m : Nat) (zs z9 pp : List Nat) (w : World) (hB : Bs w (some ⟨b, off, none⟩) 128 zs) (hcap : 128 ≤ cap) (hsm : s.size ≤ maxLen) (HL : Hid (ln = zs.getD 17 0)) (hln : ln ≤ 106)
  (H9 : Hid (z9 = (zs.drop 9).take 8)) (HN : Hid (n = getB 0 z9)) (hn : n ≤ 4611686018427387904) (HM : Hid (m = 18 + ln)) (HP : Hid (pp = (zs.drop 18).take ln)) (hc : canB i n ln = false) :
  Calls Tryz.prog 75 #[.slice (some ⟨b, off, none⟩) 128 cap, .string s, .int .i64 i] w fun e w' => e = .returned (.tuple #[.slice none 0 0, .int .i64 0, .int .i64 40]) ∧ Below w.heap.size w w' := by
 have h17 := hB.at 17 (by omega)
 rw [← HL.out] at h17
 have h17' := Lib.cell?_alloc_some (.cells #[] 5) h17
 have h9 := hB.part 9 8 (by omega)
 rw [← H9.out] at h9
 have h1 : ¬ ((106 : Int) < (ln : Int)) := by omega
 have h2 : decide ((4611686018427387904 : Int) < (n : Int)) = false := by simp; omega
 have hpp := hB.part 18 ln (by omega)
 rw [← HP.out] at hpp
 have hwl : IntKind.i64.wrap (ln : Int) = (ln : Int) := by rw [IntKind.wrap_i64]; omega
 have hwn : IntKind.i64.wrap (n : Int) = (n : Int) := by rw [IntKind.wrap_i64]; omega
 have hwm : IntKind.i64.wrap (18 + (ln : Int)) = (m : Int) := by rw [IntKind.wrap_i64, HM.out]; omega
 have hm1 : 18 ≤ m := by rw [HM.out]; omega
 have hm2 : m ≤ cap := by rw [HM.out]; omega
 have hm3 : m - 18 = ln := by rw [HM.out]; omega
 go_enter Tryz.func75, Tryz.ntmps75
 go_wp2_with fail
 refine (refGet_some b (off + 9) 8 (cap - 9) z9 _ h9.2.2.1 h9.1.symm (by omega) (by omega) (fun j hj => h9.at j hj)).mono ?_
 rw [← HN.out]
 rintro e w1 ⟨rfl, rfl⟩
 clear h9
 have hb1 : Below w1.heap.size w1 (w1.alloc (.cells #[] 5)) := (Below.refl _ _).alloc (Nat.le_refl _) _
 have hown1 : (w1.alloc (.cells #[] 5)).ownsRow w1.heap.size 5 1 (.slice (some ⟨w1.heap.size, 0, none⟩) 0 0) 0 (vb []) := World.ownsRow_lit (base := w1.heap.size) (e := 5) (size := 1) w1 #[] 0 (Nat.le_refl _) (Nat.zero_le _) rfl
 have hpp1 := hpp.below hb1
 have hzp := hpp.2.2.1
 have hadd : 0 + ln = ln := Nat.zero_add ln
 have hlb : ln ≤ 100000 := by omega
 have HAP : Hid (pp = [] ++ pp) := hid rfl
 go_wp2_with (at_builtin; refine wpList_app rfl _ _ rfl w1.heap.size w1 _ 0 [] rfl hown1 _ ln (cap - 18) pp rfl (nil_some _ _) hpp1 ln pp hadd HAP hlb (le_alloc (Nat.le_refl _) _) hb1 ?_; intro v2 w2 hown2 hb2; obtain ⟨a2, c2, rfl, hB2, hnil2⟩ := own_bs hown2 hzp)
 refine (refFrame_no s i n a2 ln c2 _ hc).mono ?_
 rintro e w3 ⟨rfl, hb3⟩
 go_wp2
 go_ret3
 exact ⟨rfl, hb2.trans (hb3.mono hb2.size)⟩
set_option maxHeartbeats 1000000 in
set_option maxRecDepth 100000 in
theorem refOpen_can (s : ByteArray) (i : Int) (b off cap ln n m : Nat) (zs z9 pp : List Nat) (w : World) (hB : Bs w (some ⟨b, off, none⟩) 128 zs) (hcap : 128 ≤ cap) (hsm : s.size ≤ maxLen) (HL : Hid (ln = zs.getD 17 0)) (hln : ln ≤ 106)
  (H9 : Hid (z9 = (zs.drop 9).take 8)) (HN : Hid (n = getB 0 z9)) (hn : n ≤ 4611686018427387904) (HM : Hid (m = 18 + ln)) (HP : Hid (pp = (zs.drop 18).take ln)) (j : Nat) (HJ : Hid (i = j)) (hj2 : j ≤ 2147483647) (fz : List Nat) (HF : Hid (fz = frameB (nums s) j n pp)) (eq : Bool) (HE : Hid (eq = decide (zs = fz))) :
  Calls Tryz.prog 75 #[.slice (some ⟨b, off, none⟩) 128 cap, .string s, .int .i64 i] w fun e w' => Below w.heap.size w w' ∧
   if eq = true then ∃ v, e = .returned (.tuple #[v, .int .i64 n, .int .i64 0]) ∧ w'.ownsRow w.heap.size 5 1 v ln (vb pp) else e = .returned (.tuple #[.slice none 0 0, .int .i64 0, .int .i64 40]) := by
 have h17 := hB.at 17 (by omega)
 rw [← HL.out] at h17
 have h17' := Lib.cell?_alloc_some (.cells #[] 5) h17
 have h9 := hB.part 9 8 (by omega)
 rw [← H9.out] at h9
 have h1 : ¬ ((106 : Int) < (ln : Int)) := by omega
 have h2 : decide ((4611686018427387904 : Int) < (n : Int)) = false := by simp; omega
 have hpp := hB.part 18 ln (by omega)
 rw [← HP.out] at hpp
 have hwl : IntKind.i64.wrap (ln : Int) = (ln : Int) := by rw [IntKind.wrap_i64]; omega
 have hwn : IntKind.i64.wrap (n : Int) = (n : Int) := by rw [IntKind.wrap_i64]; omega
 have hwm : IntKind.i64.wrap (18 + (ln : Int)) = (m : Int) := by rw [IntKind.wrap_i64, HM.out]; omega
 have hm1 : 18 ≤ m := by rw [HM.out]; omega
 have hm2 : m ≤ cap := by rw [HM.out]; omega
 have hm3 : m - 18 = ln := by rw [HM.out]; omega
 go_enter Tryz.func75, Tryz.ntmps75
 go_wp2_with fail
 refine (refGet_some b (off + 9) 8 (cap - 9) z9 _ h9.2.2.1 h9.1.symm (by omega) (by omega) (fun j hj => h9.at j hj)).mono ?_
 rw [← HN.out]
 rintro e w1 ⟨rfl, rfl⟩
 clear h9
 have hb1 : Below w1.heap.size w1 (w1.alloc (.cells #[] 5)) := (Below.refl _ _).alloc (Nat.le_refl _) _
 have hown1 : (w1.alloc (.cells #[] 5)).ownsRow w1.heap.size 5 1 (.slice (some ⟨w1.heap.size, 0, none⟩) 0 0) 0 (vb []) := World.ownsRow_lit (base := w1.heap.size) (e := 5) (size := 1) w1 #[] 0 (Nat.le_refl _) (Nat.zero_le _) rfl
 have hpp1 := hpp.below hb1
 have hzp := hpp.2.2.1
 have hadd : 0 + ln = ln := Nat.zero_add ln
 have hlb : ln ≤ 100000 := by omega
 have HAP : Hid (pp = [] ++ pp) := hid rfl
 go_wp2_with (at_builtin; refine wpList_app rfl _ _ rfl w1.heap.size w1 _ 0 [] rfl hown1 _ ln (cap - 18) pp rfl (nil_some _ _) hpp1 ln pp hadd HAP hlb (le_alloc (Nat.le_refl _) _) hb1 ?_; intro v2 w2 hown2 hb2; obtain ⟨a2, c2, rfl, hB2, hnil2⟩ := own_bs hown2 hzp)
 refine (refFrame_bs s i n j n HJ.out rfl a2 ln c2 pp _ hB2 hnil2 hsm hj2 hn hln fz HF).mono ?_
 rintro e w3 ⟨a3, c3, rfl, hB3, hb3⟩
 have hb13 : Below w1.heap.size w1 w3 := hb2.trans (hb3.mono hb2.size)
 have hown3 : Hid (w3.ownsRow w1.heap.size 5 1 (.slice a2 ln c2) ln (vb pp)) := hid (own_of_below hown2.out hb3)
 have hs1 := hB3.str (cap := c3)
 have hs2 := (hB.below hb13).str (cap := cap)
 have hz : ((strB fz).toList == (strB zs).toList) = eq := by
  rw [HE.out, Bool.eq_iff_iff, beq_iff_eq, strB_inj hB3.2.2.1 hB.2.2.1, decide_eq_true_iff]
  exact eq_comm
 generalize strB fz = st1 at *
 generalize strB zs = st2 at *
 cases eq with
 | false =>
  go_wp2
  go_ret3
  exact ⟨hb13, rfl⟩
 | true =>
  go_wp2
  go_ret3
  exact ⟨hb13, _, rfl, hown3.out⟩
theorem refOpen_any (s : ByteArray) (i : Int) (a : Option Addr) (len cap : Nat) (zs : List Nat) (w : World) (hB : Bs w a len zs) (hcap : len ≤ cap) (hsm : s.size ≤ maxLen) :
  Calls Tryz.prog 75 #[.slice a len cap, .string s, .int .i64 i] w fun e w' => Below w.heap.size w w' ∧ opened (openB zs (nums s) i) w.heap.size e w' := by
 by_cases hl : len = 128
 ·
  subst hl
  obtain ⟨b, off, rfl, _, _⟩ := hB.pos (by omega)
  have none_of : ∀ {e w'}, e = Ending.returned (.tuple #[.slice none 0 0, .int .i64 0, .int .i64 40]) → openB zs (nums s) i = none → opened (openB zs (nums s) i) w.heap.size e w' := by
   intro e w' he ho
   rw [ho]; exact he
  by_cases hln : zs.getD 17 0 ≤ 106
  ·
   by_cases hn : getB 0 ((zs.drop 9).take 8) ≤ 4611686018427387904
   ·
    cases hc : canB i (getB 0 ((zs.drop 9).take 8) : Nat) (zs.getD 17 0) with
    | false =>
     refine (refOpen_cannot s i b off cap _ _ _ zs _ _ w hB hcap hsm (hid rfl) hln (hid rfl) (hid rfl) hn (hid rfl) (hid rfl) hc).mono ?_
     rintro e w' ⟨he, hb⟩
     refine ⟨hb, none_of he ?_⟩
     unfold openB
     rw [if_neg]
     rintro ⟨_, h2, h3, h4, h5, _⟩
     exact of_decide_eq_false hc ⟨h4, h5, by omega, by omega, h3⟩
    | true =>
     obtain ⟨c1, c2, c3, c4, c5⟩ := of_decide_eq_true hc
     obtain ⟨j, rfl⟩ := Int.eq_ofNat_of_zero_le c1
     refine (refOpen_can s j b off cap _ _ _ zs _ _ w hB hcap hsm (hid rfl) hln (hid rfl) (hid rfl) hn (hid rfl) (hid rfl) j (hid rfl) (by omega) _ (hid rfl) _ (hid rfl)).mono ?_
     rintro e w' ⟨hb, he⟩
     refine ⟨hb, ?_⟩
     have hl2 : ((zs.drop 18).take (zs.getD 17 0)).length = zs.getD 17 0 := by
      simp only [List.length_take, List.length_drop, hB.1]; omega
     by_cases hz : zs = frameB (nums s) j (getB 0 ((zs.drop 9).take 8)) ((zs.drop 18).take (zs.getD 17 0))
     ·
      rw [if_pos (decide_eq_true hz)] at he
      have : openB zs (nums s) (j : Int) = some ((zs.drop 18).take (zs.getD 17 0), getB 0 ((zs.drop 9).take 8)) := by
       unfold openB
       rw [if_pos ⟨hB.1, by omega, c5, by omega, c2, by simpa using hz⟩]
      rw [this]
      obtain ⟨v, he, hown⟩ := he
      refine ⟨v, he, ?_⟩
      rw [hl2]; exact hown
     ·
      rw [if_neg (by simpa using hz)] at he
      refine none_of he ?_
      unfold openB
      rw [if_neg]
      rintro ⟨_, _, _, _, _, h6⟩
      exact hz (by simpa using h6)
   ·
    refine (refOpen_gen s i b off cap _ _ zs _ w hB hcap (hid rfl) hln (hid rfl) (hid rfl) (by omega)).mono ?_
    rintro e w' ⟨he, hb⟩
    refine ⟨hb, none_of he ?_⟩
    unfold openB
    rw [if_neg]
    rintro ⟨_, h2, _⟩
    omega
  ·
   refine (refOpen_long s i b off cap _ zs w hB hcap (hid rfl) (by omega)).mono ?_
   rintro e w' ⟨he, hb⟩
   refine ⟨hb, none_of he ?_⟩
   unfold openB
   rw [if_neg]
   rintro ⟨_, _, h3, _⟩
   omega
 ·
  refine (refOpen_short s i a len cap w hl).mono ?_
  rintro e w' ⟨he, hb⟩
  refine ⟨hb, ?_⟩
  have : openB zs (nums s) i = none := by
   unfold openB
   rw [if_neg]
   rintro ⟨h1, _⟩
   exact hl (by rw [← hB.1]; exact h1)
  rw [this]
  exact he
end Go.Proofs.YtdppolelakbbiaaGreatDoor
