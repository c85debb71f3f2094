/- codec.Decode: a contract at all bytes. -/
import Derived.Test.YtfgfkifdokeefaaGreatDoorCodD
import Derived.Test.YtfgfkifdokeefaaGreatDoorGetWalk
namespace Go.Proofs.YtfgfkifdokeefaaGreatDoor.Cd
open Go.RowKit Go.Joins
set_option linter.unusedVariables false
set_option linter.unusedSimpArgs false

theorem putB_getB : ∀ (k : Nat) (xs : List Nat), xs.length = k → isB xs → putB (getB 0 xs) k = xs := by
  intro k
  induction k with
  | zero => intro xs h _; rw [List.length_eq_zero_iff.1 h]; rfl
  | succ k ih =>
    intro xs h hb
    obtain ⟨ys, y, rfl⟩ : ∃ ys y, xs = ys ++ [y] := ⟨xs.dropLast, xs.getLast (by intro h0; rw [h0] at h; simp at h), (List.dropLast_concat_getLast _).symm⟩
    have hy : y < 256 := hb y (by simp)
    have hl : ys.length = k := by simpa using h
    rw [getB_snoc, putB, show (getB 0 ys * 256 + y) / 256 = getB 0 ys from by omega, show (getB 0 ys * 256 + y) % 256 = y from by omega, ih ys hl (fun x hx => hb x (by simp [hx]))]

theorem encS_body (l : List Sam) : encS l = lowBits l.length 16 ++ bodyTo l l.length := encTo_body l l.length

theorem pack_split {zs : List Nat} {l : List Sam} (hb : isB zs) (hl : l.length ≤ 65535) (h2 : 2 ≤ zs.length) :
    IsPack zs (encS l) ↔ getB 0 (zs.take 2) = l.length ∧ IsPack (zs.drop 2) (bodyTo l l.length) := by
  have ht2 : (zs.take 2).length = 2 := by rw [List.length_take]; omega
  constructor
  · intro h
    have hlen : 8 * 2 ≤ (encS l).length := by rw [encS_body, List.length_append, lowBits_length]; omega
    have h1 := pack_take h 2 hlen
    have h3 := pack_drop h 2 hlen
    have e1 : (encS l).take (8 * 2) = lowBits l.length 16 := by
      rw [encS_body, List.take_append_of_le_length (by rw [lowBits_length]; omega), List.take_of_length_le (by rw [lowBits_length]; omega)]
    have e2 : (encS l).drop (8 * 2) = bodyTo l l.length := by
      rw [encS_body, List.drop_append_of_le_length (by rw [lowBits_length]; omega), List.drop_of_length_le (by rw [lowBits_length]; omega), List.nil_append]
    rw [e1] at h1
    rw [e2] at h3
    refine ⟨?_, h3⟩
    have := IsPack.unique h1 (putB_pack l.length 2)
    rw [this, getB_putB, Nat.mod_eq_of_lt (by omega)]
  · rintro ⟨h1, h3⟩
    have e := putB_getB 2 (zs.take 2) ht2 (isB_take hb 2)
    rw [h1] at e
    have hp := pack_app (isB_take hb 2) h3
    rw [List.take_append_drop, ht2, ← e] at hp
    have hbits := (putB_pack l.length 2).bits
    rw [lowBits_length] at hbits
    rw [hbits] at hp
    rw [encS_body]; exact hp

theorem pack_at {ys : List Nat} {L : List Bool} (h : IsPack ys L) : At ys (8 * ys.length) 0 L ∧ 8 * ys.length < L.length + 8 ∧ ∀ i, L.length ≤ i → bitAt ys i = false := by
  have h1 := h.1
  refine ⟨⟨by rw [h1]; unfold nb; omega, fun i hi => by rw [Nat.zero_add]; exact h.2.2 i⟩, by rw [h1]; unfold nb; omega, fun i hi => ?_⟩
  rw [h.2.2 i, List.getD_eq_getElem?_getD, List.getElem?_eq_none hi]; rfl

theorem at_pack {ys : List Nat} {L : List Bool} (hb : isB ys) (h : At ys (8 * ys.length) 0 L) (hl : 8 * ys.length < L.length + 8) (hz : ∀ i, L.length ≤ i → i < 8 * ys.length → bitAt ys i = false) : IsPack ys L := by
  have h1 := h.1
  refine ⟨by unfold nb; omega, hb, fun i => ?_⟩
  by_cases hi : i < L.length
  · have := h.2 i hi; rwa [Nat.zero_add] at this
  · rw [List.getD_eq_getElem?_getD, List.getElem?_eq_none (by omega)]
    by_cases h2 : i < 8 * ys.length
    · exact hz i (by omega) h2
    · exact bitAt_out ys i (by omega)

theorem win_zero {zs : List Nat} {q c : Nat} : numOf (win zs q c) = 0 ↔ ∀ i, i < c → bitAt zs (q + i) = false := by
  constructor
  · intro h i hi
    have e := win_low zs q c
    rw [h] at e
    have h1 : (win zs q c).getD i false = (lowBits 0 c).getD i false := by rw [e]
    have h2 : (win zs q c).getD i false = bitAt zs (q + i) := by simp [win, hi]
    rw [h2, lowBits_getD _ _ _ hi] at h1
    simpa using h1
  · intro h
    have e : win zs q c = lowBits 0 c := by
      refine bools_ext (by rw [win_length, lowBits_length]) fun i => ?_
      by_cases hi : i < c
      · rw [lowBits_getD _ _ _ hi]
        have h2 : (win zs q c).getD i false = bitAt zs (q + i) := by simp [win, hi]
        rw [h2, h i hi]; simp
      · rw [List.getD_eq_getElem?_getD, List.getElem?_eq_none (by rw [win_length]; omega), List.getD_eq_getElem?_getD, List.getElem?_eq_none (by rw [lowBits_length]; omega)]
    rw [e, numOf_lowBits]; simp

set_option maxHeartbeats 2000000 in
set_option maxRecDepth 100000 in
theorem readerOf_any (a : Option Addr) (len cap : Nat) (w : World) (hl : len ≤ 1000000000) :
    Calls Tryz.prog 194 #[.slice a len cap] w fun e w' => e = .returned (.agg #[.slice a len cap, .int .i64 ((len : Int) * 8), .int .i64 0, .bool false]) ∧ Below w.heap.size w w' := by
  go_enter Tryz.func194, Tryz.ntmps194
  go_wp2_with fail
  exact bodyPost_ret (v := .agg #[.slice a len cap, .int .i64 ((len : Int) * 8), .int .i64 0, .bool false]) (by simp [results, Tryz.results194, go_sem]) rfl ⟨rfl, (Below.refl _ _).alloc (Nat.le_refl _) _⟩

set_option maxHeartbeats 2000000 in
set_option maxRecDepth 100000 in
theorem atEnd_any (r : Nat) {S : Option Addr × Nat} (zs : List Nat) (q : Nat) (bad : Bool) (w : World) (h : RI w r S zs q bad) :
    Calls Tryz.prog 196 #[.pointer (some ⟨r, 0, none⟩)] w fun e w' => e = .returned (.bool (decide (8 * zs.length < q + 8 ∧ numOf (win zs q (8 * zs.length - q)) = 0))) ∧ Kr r w w' := by
  obtain ⟨h1, h2, h3, h4, h5⟩ := id h
  obtain ⟨N, hN⟩ : ∃ N, N = 8 * zs.length := ⟨_, rfl⟩
  rw [← hN] at h1 h3
  have c1 : w.cell? ⟨r, 1, none⟩ = some (.int .i64 (N : Int)) := cell_of_row _ _ _ _ _ _ h1
  have c2 : w.cell? ⟨r, 2, none⟩ = some (.int .i64 (q : Int)) := cell_of_row _ _ _ _ _ _ h1
  have hN8 : N ≤ 8000000000 := by omega
  obtain ⟨lf, hlf⟩ : ∃ lf, lf = N - q := ⟨_, rfl⟩
  have rlf : (N : Int) - (q : Int) = (lf : Int) := by omega
  obtain ⟨D, hD⟩ : ∃ D, D = decide (8 * zs.length < q + 8 ∧ numOf (win zs q (8 * zs.length - q)) = 0) := ⟨_, rfl⟩
  rw [← hD]
  have HD := hidn hD
  have HLF := hidn hlf
  have HN := hidn hN
  clear hlf hN h1 h2 h4 h5 hD
  by_cases h8 : lf < 8
  · have h8i : (lf : Int) < 8 := by omega
    have hd8 : decide ((lf : Int) < 8) = true := decide_eq_true h8i
    go_enter Tryz.func196, Tryz.ntmps196
    go_wp2_with fail
    go_quiet (fail)
    have hb1 : Below w.heap.size w (w.drewN nq) := below_drewN (Below.refl _ _) _
    have hr1 := h.below hb1
    generalize w.drewN nq = w1 at *
    go_wp2_with fail
    refine (rtake_ok r lf zs q bad _ hr1 (by omega) (by rw [← HN.out, HLF.out]; omega)).mono ?_
    rintro e w2 ⟨rfl, hr2, k2⟩
    obtain ⟨nv, hnv⟩ : ∃ nv, nv = numOf (win zs q lf) := ⟨_, rfl⟩
    rw [← hnv]
    have HNV := hidn hnv
    clear hnv hr2
    have HK := hidn ((Kr.of_below (r := r) hb1).trans k2)
    clear k2 hb1
    by_cases hz : nv = 0
    · have hnz : ((nv : Int) == 0) = true := by simp; omega
      go_wp2_with fail
      go_ret
      have e : D = true := by rw [HD.out]; exact decide_eq_true ⟨by rw [← HN.out]; have := HLF.out; omega, by rw [← HN.out, ← HLF.out, ← HNV.out]; exact hz⟩
      rw [e]
      exact ⟨rfl, HK.out⟩
    · have hnz : ((nv : Int) == 0) = false := by simp; omega
      go_wp2_with fail
      go_ret
      have e : D = false := by rw [HD.out]; exact decide_eq_false (fun hh => hz (by have := hh.2; rw [← HN.out, ← HLF.out, ← HNV.out] at this; exact this))
      rw [e]
      exact ⟨rfl, HK.out⟩
  · have h8i : ¬ (lf : Int) < 8 := by omega
    have hd8 : decide ((lf : Int) < 8) = false := decide_eq_false h8i
    go_enter Tryz.func196, Tryz.ntmps196
    go_wp2_with fail
    go_quiet (fail)
    have hb1 : Below w.heap.size w (w.drewN nq) := below_drewN (Below.refl _ _) _
    generalize w.drewN nq = w1 at *
    go_wp2_with fail
    go_ret
    have e : D = false := by rw [HD.out]; exact decide_eq_false (fun hh => h8 (by have := hh.1; rw [← HN.out] at this; have := HLF.out; omega))
    rw [e]
    exact ⟨rfl, Kr.of_below hb1⟩

theorem own_mono2 {w : World} {base base' e size n : Nat} {v : Value} {xs : List Value} (h : w.ownsRow base e size v n xs) (hb : base' ≤ base) : w.ownsRow base' e size v n xs := by
  refine ⟨h.1, ?_⟩
  rcases h.2 with h1 | ⟨g, c, cur, hv, hg, r⟩
  · exact .inl h1
  · exact .inr ⟨g, c, cur, hv, by omega, r⟩

/-- What Decode answers. -/
def DPost (w w' : World) (zs : List Nat) (e : Ending) : Prop :=
  ((∃ (l : List Sam) (v : Value), e = .returned (.tuple #[v, .int .i64 0]) ∧ canS l = true ∧ SamsOK l ∧ IsPack zs (encS l) ∧ w'.ownsRow w.heap.size 81 2 v l.length (vsm l)) ∨
    (e = .returned (.tuple #[.slice none 0 0, .int .i64 5]) ∧ ∀ l, SamsOK l → canS l = true → ¬ IsPack zs (encS l))) ∧ Below w.heap.size w w'

theorem encS_len16 (l : List Sam) : 16 ≤ (encS l).length := by rw [encS_body, List.length_append, lowBits_length]; omega

set_option maxHeartbeats 4000000 in
set_option maxRecDepth 100000 in
theorem sdec_any (a : Option Addr) (len cap : Nat) (zs : List Nat) (w : World) (h : Bs w a len zs) (hl : len ≤ 1000000000) (hcap : len ≤ cap) (hcm : cap ≤ maxLen) (hT : BitsTab w) :
    Calls Tryz.prog 144 #[.slice a len cap] w fun e w' => DPost w w' zs e := by
  unfold maxLen at hcm
  by_cases h2 : len < 2
  · have hlt : (len : Int) < 2 := by omega
    have HNO : Hid (∀ l, SamsOK l → canS l = true → ¬ IsPack zs (encS l)) := hidn (by
      intro l _ _ hp
      have h1 := hp.1
      have h3 := encS_len16 l
      rw [h.1] at h1
      unfold nb at h1
      omega)
    go_enter Tryz.func144, Tryz.ntmps144
    go_wp2_with fail
    go_ret2
    exact ⟨.inr ⟨rfl, HNO.out⟩, Below.refl _ _⟩
  · have hlt : ¬ (len : Int) < 2 := by omega
    obtain ⟨b, off, rfl, hbw, hc⟩ := h.pos (by omega)
    have hz := h.2.2.1
    have hzl := h.1
    have h2c : (2 : Int) ≤ (cap : Int) := by omega
    have h2l : (2 : Int) ≤ (len : Int) := by omega
    obtain ⟨n, hn⟩ : ∃ n, n = getB 0 (zs.take 2) := ⟨_, rfl⟩
    have hnb : n ≤ 65535 := by
      rw [hn]
      have := getB_lt (zs.take 2) (fun x hx => hz x (List.mem_of_mem_take hx))
      rw [List.length_take, hzl, show min 2 len = 2 from by omega] at this
      omega
    have HZL := hidn hzl
    have HN := hidn hn
    clear hzl hn
    obtain ⟨ra, hra⟩ : ∃ ra, (if cap = 2 then some (⟨b, off, none⟩ : Addr) else some ⟨b, off + 2, none⟩) = ra := ⟨_, rfl⟩
    have hrb : ∀ x, ra = some x → x.block = b := by
      intro x hx
      rw [← hra] at hx
      split at hx <;> (cases hx; rfl)
    have hBr : Bs w ra (len - 2) (zs.drop 2) := by
      obtain ⟨h1, h3, h4, h5, h6⟩ := h
      refine ⟨by rw [List.length_drop, h1], by omega, fun x hx => h4 x (List.mem_of_mem_drop hx), ?_, fun x hx j hj => ?_⟩
      · intro hn; rw [← hra] at hn; split at hn <;> cases hn
      · rw [← hra, if_neg (by omega)] at hx
        cases hx
        rw [add_none, show off + 2 + j = off + (2 + j) from by omega, hc (2 + j) (by omega)]
        simp [List.getD_eq_getElem?_getD, List.getElem?_drop]
    go_enter Tryz.func144, Tryz.ntmps144
    go_wp2_with fail
    refine (get_some b off 2 cap (zs.take 2) _ (fun x hx => hz x (List.mem_of_mem_take hx)) (by rw [List.length_take, HZL.out]; omega) (by omega) (by omega) (fun j hj => ?_)).mono ?_
    · rw [hc j (by omega)]
      simp [List.getD_eq_getElem?_getD, hj]
    rintro e w1 ⟨rfl, rfl⟩
    rw [← HN.out]
    go_wp2_with fail
    obtain ⟨m, hm⟩ : ∃ m, m = len - 2 := ⟨_, rfl⟩
    obtain ⟨cm, hcm2⟩ : ∃ cm, cm = cap - 2 := ⟨_, rfl⟩
    rw [← hm, ← hcm2]
    rw [← hm] at hBr
    have HM := hidn hm
    have HCM := hidn hcm2
    have HRA := hidn hra
    have hml : m ≤ 1000000000 := by omega
    clear hm hcm2 hra hc
    refine (readerOf_any ra m cm _ hml).mono ?_
    rintro e w2 ⟨rfl, b2⟩
    have z2 := b2.size
    have hlen2 : (zs.drop 2).length = m := by rw [List.length_drop, HZL.out, HM.out]
    obtain ⟨ys, hys⟩ : ∃ ys, ys = zs.drop 2 := ⟨_, rfl⟩
    rw [← hys] at hBr hlen2
    have HYS := hidn hys
    have HL2 := hidn hlen2
    obtain ⟨r, hr⟩ : ∃ r, r = w2.heap.size := ⟨_, rfl⟩
    have hRI : RI (w2.alloc (.cells #[.slice ra m cm, .int .i64 ((m : Int) * 8), .int .i64 0, .bool false] 284)) r (ra, cm) ys 0 false := by
      refine ⟨?_, ?_, Nat.zero_le _, by rw [hlen2]; exact hml, fun x hx => by rw [hrb x hx]; omega⟩
      · rw [hr, hlen2]
        have e1 : ((8 * m : Nat) : Int) = (m : Int) * 8 := by omega
        rw [e1]
        exact heap_alloc_new w2 _
      · rw [hlen2]
        exact (hBr.below b2).below ((Below.refl _ _).alloc (Nat.le_refl _) _)
    have B3 : Below w1.heap.size w1 (w2.alloc (.cells #[.slice ra m cm, .int .i64 ((m : Int) * 8), .int .i64 0, .bool false] 284)) := b2.alloc z2 _
    have hrl : r < (w2.alloc (.cells #[.slice ra m cm, .int .i64 ((m : Int) * 8), .int .i64 0, .bool false] 284)).heap.size := by rw [hr]; simp
    have hSS : ∀ x, (ra, cm).1 = some x → 0 < ys.length → x.block < (w2.alloc (.cells #[.slice ra m cm, .int .i64 ((m : Int) * 8), .int .i64 0, .bool false] 284)).heap.size := fun x hx _ => by rw [hrb x hx]; simp; omega
    have hT3 := hT.below B3
    have hTr : 2 ≠ r := by
      have := block_lt_of_cell (hT 0 (by omega)).1
      simp only at this
      omega
    have hrw : w1.heap.size ≤ r := by omega
    have HR := hidn hr
    clear hr hlen2 hys b2 hBr
    go_wp2_with fail
    rw [← HR.out]
    generalize hW3 : w2.alloc (.cells #[.slice ra m cm, .int .i64 ((m : Int) * 8), .int .i64 0, .bool false] 284) = W3 at *
    clear hW3
    refine (samples_any r n ys _ hRI hrl hSS hT3 hTr hnb).mono ?_
    rintro e w4 ⟨v, rfl, hsp⟩
    obtain ⟨l, q, bad, hown, hok, hrise, hRI4, hK4, hU, hAt, hal⟩ := hsp
    have B4 : Below w1.heap.size w1 w4 := B3.trans (hK4.below B3.size hrw)
    obtain ⟨av, cv, rfl⟩ := own_slice hown
    obtain ⟨k, hk⟩ : ∃ k, k = l.length := ⟨_, rfl⟩
    rw [← hk]
    have HKL := hidn hk
    have hw3s := B3.size
    have hisB : isB zs := hz
    by_cases hkn : k = n
    · have hne : ((k : Int) != (n : Int)) = false := by rw [bne_eq_false_iff_eq]; omega
      have hfull : bad = false ∧ q = (bodyTo l l.length).length := by
        rcases hal with ⟨_, h3, h4⟩ | ⟨h3, _⟩
        · exact ⟨h3, h4⟩
        · omega
      have HFULL := hidn hfull
      have HOWN := hidn hown
      have HU := hidn hU
      have HAT := hidn hAt
      have HKN := hidn hkn
      clear hal hk hfull hU hAt hown hkn
      go_wp2_with fail
      refine (atEnd_any r ys q bad _ hRI4).mono ?_
      rintro e w5 ⟨rfl, hK5⟩
      have B5 : Below w1.heap.size w1 w5 := B4.trans (hK5.below B4.size hrw)
      have hown5 := own_kr HOWN.out (by omega) hK5
      have HOWN5 := hidn hown5
      clear hown5
      obtain ⟨D, hD⟩ : ∃ D, D = decide (8 * ys.length < q + 8 ∧ numOf (win ys q (8 * ys.length - q)) = 0) := ⟨_, rfl⟩
      rw [← hD]
      have HD := hidn hD
      clear hD
      cases D with
      | true =>
        go_wp2_with fail
        go_ret2
        have hd := of_decide_eq_true HD.out.symm
        obtain ⟨hb1, hq⟩ := HFULL.out
        refine ⟨.inl ⟨l, .slice av k cv, rfl, (canS_iff l).2 ⟨by rw [← HKL.out]; have := HKN.out; omega, hrise⟩, hok, ?_, ?_⟩, B5⟩
        · refine (pack_split hisB (by rw [← HKL.out]; have := HKN.out; omega) (by rw [HZL.out]; omega)).2 ⟨by rw [← HN.out, ← HKL.out, HKN.out], ?_⟩
          rw [← HYS.out]
          refine at_pack (by rw [HYS.out]; exact isB_drop hisB 2) HAT.out (by rw [← hq]; exact hd.1) (fun i h1 h3 => ?_)
          rw [← hq] at h1
          have := win_zero.1 hd.2 (i - q) (by omega)
          rwa [show q + (i - q) = i from by omega] at this
        · rw [← HKL.out]
          have := HOWN5.out
          rw [← HKL.out] at this
          exact own_mono2 this (by omega)
      | false =>
        go_wp2_with fail
        go_ret2
        have hd := of_decide_eq_false HD.out.symm
        obtain ⟨hb1, hq⟩ := HFULL.out
        refine ⟨.inr ⟨rfl, fun l' hok' hc' hp' => ?_⟩, B5⟩
        have hc2 := (canS_iff l').1 hc'
        obtain ⟨g1, g2⟩ := (pack_split hisB hc2.1 (by rw [HZL.out]; omega)).1 hp'
        rw [← HN.out] at g1
        rw [← HYS.out] at g2
        obtain ⟨g3, g4, g5⟩ := pack_at g2
        have hll : l.length = l'.length := by rw [← HKL.out, HKN.out, g1]
        have hll' : l' = l := by
          have := HU.out l' hok' hc2.2 (by omega) (by rw [hll]; exact g3)
          rwa [hll, List.take_of_length_le (Nat.le_refl _)] at this
        subst hll'
        refine hd ⟨by rw [hq]; exact g4, win_zero.2 (fun i hi => g5 (q + i) (by rw [hq]; omega))⟩
    · have hne : ((k : Int) != (n : Int)) = true := by rw [bne_iff_ne]; omega
      have HNO : Hid (∀ l', SamsOK l' → canS l' = true → ¬ IsPack zs (encS l')) := hidn (by
        intro l' hok' hc' hp'
        have hc2 := (canS_iff l').1 hc'
        obtain ⟨g1, g2⟩ := (pack_split hisB hc2.1 (by rw [HZL.out]; omega)).1 hp'
        rw [← HN.out] at g1
        rw [← HYS.out] at g2
        rcases hal with ⟨h3, _⟩ | ⟨_, h4⟩
        · exact hkn (by rw [hk]; exact h3)
        · refine h4 l' hok' hc2.2 g1.symm ?_
          have := (pack_at g2).1
          rwa [← g1] at this)
      clear hal hk hown
      go_wp2_with fail
      go_ret2
      exact ⟨.inr ⟨rfl, HNO.out⟩, B4⟩

end Go.Proofs.YtfgfkifdokeefaaGreatDoor.Cd
