/- Disks: two new disks, with steps done on both. -/
import Derived.Test.YtocfbokgbpaneaaTwD
import Derived.Test.YtocfbokgbpaneaaMg
namespace Go.Proofs.Ytocfbokgbpaneaa
open Go.RowKit Go.Maps
set_option linter.unusedVariables false

def st0 (r : Nat) : St := ⟨fun _ => [], (r : Int), -1⟩

theorem rel_new (r : Nat) (h : r ≤ 100000) : RelV [] (r : Int) (st0 r) :=
  ⟨fun s => rfl, by show (r : Int) = (r : Int) - ((0 : Nat) : Int); omega, by show (0 : Int) ≤ (r : Int); omega, by omega, by omega, by show (-1 : Int) ≤ -1; omega, by show (-1 : Int) ≤ _; omega, (fun p hp => by cases hp), (fun p hp => by cases hp), List.Pairwise.nil⟩

theorem two_new {w w1 w2 : World} {r : Nat} (hr : r ≤ 100000) (h1 : DiskOf w1 (w.heap.size + 1) (fun k => w.heap.size ≤ k ∧ k < w.heap.size + 2) 0 (fun _ => []) (r : Int) (-1)) (b1 : Below w.heap.size w w1) (s1 : w1.heap.size = w.heap.size + 2)
    (h2 : RyOf w2 w1.heap.size (fun k => k = w1.heap.size) none 0 [] (r : Int) (-1)) (b2 : Below w1.heap.size w1 w2) (s2 : w2.heap.size = w1.heap.size + 1) : Two w w2 (w.heap.size + 1) 0 w1.heap.size (r : Int) (st0 r) := by
  refine ⟨b1.trans (b2.mono b1.size), _, _, DiskOf.below h1 b2, ⟨none, 0, [], h2, rel_new r hr⟩, fun k hk => ⟨hk.1, ?_⟩, fun k hk => ⟨?_, ?_⟩, fun k hk he => ?_⟩
  · have := hk.2; omega
  · have : k = w1.heap.size := hk
    omega
  · have : k = w1.heap.size := hk
    omega
  · have h3 : k = w1.heap.size := he
    have := hk.2
    omega

/-- A step of a list, as it stands in memory. -/
theorem StsK.step {w : World} {a : Option Addr} {len : Nat} {l : List StK} (h : StsK w a len l) {j : Nat} {s : StK} (hs : l[j]? = some s) : (l.map StK.s)[j]? = some s.s := by
  rw [List.getElem?_map, hs]; rfl

theorem Sts.at2 {w w' : World} {a : Option Addr} {len j : Nat} {l : List Stp} {s : Stp} (h : Sts w a len l) (hb : Below w.heap.size w w') (hs : l[j]? = some s) :
    ∃ b off, a = some ⟨b, off, none⟩ ∧ w'.cell? ⟨b, off + j * 8, none⟩ = some (.int .i64 s.op) ∧ w'.cell? ⟨b, off + j * 8 + 1, none⟩ = some (.int .i64 s.i) ∧ w'.cell? ⟨b, off + j * 8 + 2, none⟩ = some (.int .i64 s.at2) ∧ w'.cell? ⟨b, off + j * 8 + 3, none⟩ = some (.int .i64 s.n3) ∧
      w'.cell? ⟨b, off + j * 8 + 4, none⟩ = some (.string s.nm) ∧ w'.cell? ⟨b, off + j * 8 + 5, none⟩ = some (.slice s.ba s.bl s.bc) ∧ w'.cell? ⟨b, off + j * 8 + 6, none⟩ = some (.int .u8 s.m6) ∧ w'.cell? ⟨b, off + j * 8 + 7, none⟩ = some (.slice s.ka s.kl s.kc) :=
  (h.below hb).at hs

theorem do_stepU (W0 w : World) (d N y : Nat) (room : Int) (st : St) (U : Nat → Prop) (h : TwX W0 w d N y room st st U) (hN : N < 1000000) (s : StK) (hs : StKOk W0 s) (m : Nat) (hm : s.s.m6 = (m : Int)) :
    Calls Try.prog 7 #[.agg #[.int .i64 s.s.op, .int .i64 s.s.i, .int .i64 s.s.at2, .int .i64 s.s.n3, .string s.s.nm, .slice s.s.ba s.s.bl s.s.bc, .int .u8 (m : Int), .slice s.s.ka s.s.kl s.s.kc], .pointer (some ⟨d, 0, none⟩), .pointer (some ⟨y, 0, none⟩)] w (DoPostU W0 w d N y room U) := by
  obtain ⟨h1, h2, h3, h4, h5, h6, _⟩ := hs
  exact do_anyU W0 w d N y room st U h hN s.s.op s.s.i s.s.at2 s.s.n3 s.s.nm s.s.ba s.s.bl s.s.bc s.s.zs m (by omega) s.s.ka s.s.kl s.s.kc s.ks h1 h2 h3 h5.2 h6

/-- A step of the list is done on both disks. -/
theorem do_step (W0 w : World) (d N y : Nat) (room : Int) (st : St) (h : Two W0 w d N y room st) (hN : N < 1000000) (s : StK) (hs : StKOk W0 s) (m : Nat) (hm : s.s.m6 = (m : Int)) :
    Calls Try.prog 7 #[.agg #[.int .i64 s.s.op, .int .i64 s.s.i, .int .i64 s.s.at2, .int .i64 s.s.n3, .string s.s.nm, .slice s.s.ba s.s.bl s.s.bc, .int .u8 (m : Int), .slice s.s.ka s.s.kl s.s.kc], .pointer (some ⟨d, 0, none⟩), .pointer (some ⟨y, 0, none⟩)] w (DoPost W0 d N y room) := by
  obtain ⟨h1, h2, h3, h4, h5, h6, _⟩ := hs
  exact do_any W0 w d N y room st h hN s.s.op s.s.i s.s.at2 s.s.n3 s.s.nm s.s.ba s.s.bl s.s.bc s.s.zs m (by omega) s.s.ka s.s.kl s.s.kc s.ks h1 h2 h3 h5.2 h6

set_option maxHeartbeats 8000000 in
set_option maxRecDepth 100000 in
theorem disks_any (w : World) (r : Nat) (hr : r ≤ 100000) (la : Option Addr) (ll lc : Nat) (sts : List StK) (hM : StsK w la ll sts) :
    Calls Try.prog 4 #[.int .i64 (r : Int), .slice la ll lc] w fun e w' => ∃ d y, e = .returned (.tuple #[.pointer (some ⟨d, 0, none⟩), .pointer (some ⟨y, 0, none⟩), .bool true]) ∧ ∃ st, Two w w' d 40 y (r : Int) st := by
  have hpn := fun (wx : World) (p : Option Addr) => run_eql_pointer_nil (P := Try.prog) wx 23 p (by kernel_rfl)
  have HM := hidn hM
  have hml := hM.2.1
  unfold maxLen at hml
  have HLn := hidn hM.1
  clear hM
  go_enter Try.func4, Try.ntmps4
  go_wp2_with fail
  refine (new_any _ r hr).mono ?_
  rintro e w1 ⟨rfl, hD1, hb1, hs1⟩
  have HD1 := hidn hD1
  have HB1 := hidn hb1
  have HS1 := hidn hs1
  clear hD1 hb1 hs1
  go_wp2_with fail
  refine (newY_yes _ r hr).mono ?_
  rintro e w2 ⟨rfl, hY2, hb2, hs2⟩
  have HT := hidn (two_new hr HD1.out HB1.out HS1.out hY2 hb2 hs2)
  clear hY2 hb2 hs2 HD1 HB1 HS1
  obtain ⟨d, hd⟩ : ∃ d, d = w.heap.size + 1 := ⟨_, rfl⟩
  obtain ⟨y, hy⟩ : ∃ y, y = w1.heap.size := ⟨_, rfl⟩
  rw [← hd, ← hy] at HT
  rw [← hd, ← hy]
  have HI0 : Hid (∃ st, Two w w2 d (min 0 40) y (r : Int) st) := hidn ⟨_, HT.out⟩
  clear hd hy HT
  go_wp2_with fail
  go_loopw [38] (fun iv wr => ∃ k : Nat, k ≤ ll ∧ iv = .int .i64 (k : Int) ∧ Hid (∃ st, Two w wr d (min k 40) y (r : Int) st)) (fun iv _ => ll - (intOf iv).toNat)
  case atStart => exact ⟨0, Nat.zero_le _, rfl, HI0⟩
  case round =>
    obtain ⟨j, hj, rfl, HI⟩ := hrel
    by_cases hlt : j < ll
    · have hlt2 : (j : Int) < (ll : Int) := by omega
      obtain ⟨s, hs⟩ : ∃ s, sts[j]? = some s := ⟨_, List.getElem?_eq_getElem (by rw [HLn.out]; exact hlt)⟩
      have hB : Below w.heap.size w wr := by obtain ⟨st, hT⟩ := HI.out; exact hT.1
      obtain ⟨mb, mo, rfl, c0, c1, c2, c3, c4, c5, c6, c7⟩ := HM.out.sts.at2 hB (HM.out.step hs)
      have HOK := hidn (HM.out.2.2.2.1 s (List.mem_of_getElem? hs))
      obtain ⟨m, hm⟩ : ∃ m : Nat, s.s.m6 = (m : Int) := ⟨s.s.m6.toNat, by have := HOK.out.2.2.2.1; omega⟩
      have HMM := hidn hm
      rw [hm] at c6
      clear hs hB hm
      have HTS : Hid (∃ st, Two w (wr.alloc (.cells #[.int .i64 s.s.op, .int .i64 s.s.i, .int .i64 s.s.at2, .int .i64 s.s.n3, .string s.s.nm, .slice s.s.ba s.s.bl s.s.bc, .int .u8 (m : Int), .slice s.s.ka s.s.kl s.s.kc] 32)) d (min j 40) y (r : Int) st) := hidn (by
        obtain ⟨st, hT⟩ := HI.out
        exact ⟨st, hT.below ((Below.refl _ _).alloc (Nat.le_refl _) _)⟩)
      by_cases h40 : j < 40
      · have h40i : (j : Int) < 40 := by omega
        go_wp2_with fail
        obtain ⟨st, hT⟩ := HTS.out
        refine (do_step w _ d (min j 40) y (r : Int) st hT (by omega) s HOK.out m HMM.out).mono ?_
        rintro e w3 ⟨rfl, st', hT'⟩
        have HI2 : Hid (∃ st, Two w w3 d (min (j + 1) 40) y (r : Int) st) := hidn ⟨st', hT'.mono (by omega)⟩
        clear hT hT' c0 c1 c2 c3 c4 c5 c6 c7 HI HTS
        go_wp2
        go_roundw
        case rel => exact ⟨j + 1, hlt, by simp, HI2⟩
        case measure => simp [intOf]; omega
      · have h40i : ¬ (j : Int) < 40 := by omega
        have HI2 : Hid (∃ st, Two w (wr.alloc (.cells #[.int .i64 s.s.op, .int .i64 s.s.i, .int .i64 s.s.at2, .int .i64 s.s.n3, .string s.s.nm, .slice s.s.ba s.s.bl s.s.bc, .int .u8 (m : Int), .slice s.s.ka s.s.kl s.s.kc] 32)) d (min (j + 1) 40) y (r : Int) st) := hidn (by
          obtain ⟨st, hT⟩ := HTS.out
          exact ⟨st, hT.mono (by omega)⟩)
        clear HI HTS
        go_wp2
        go_roundw
        case rel => exact ⟨j + 1, hlt, by simp, HI2⟩
        case measure => simp [intOf]; omega
    · have hlt2 : ¬ (j : Int) < (ll : Int) := by omega
      go_wp2_with fail
      obtain ⟨st, hT⟩ := HI.out
      refine (same_any w _ d (min j 40) y (r : Int) st hT (by omega)).mono ?_
      rintro e w3 ⟨rfl, hb3⟩
      have HZ := hidn (show ∃ st, Two w w3 d 40 y (r : Int) st from ⟨st, (hT.below hb3).mono (by omega)⟩)
      clear hT hb3
      go_wp2
      go_ret3
      exact ⟨d, y, rfl, HZ.out⟩
end Go.Proofs.Ytocfbokgbpaneaa
