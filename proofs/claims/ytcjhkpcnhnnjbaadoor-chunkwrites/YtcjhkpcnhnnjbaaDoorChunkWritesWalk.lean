/- ChunkWrites: the law. -/
import Derived.Test.YtcjhkpcnhnnjbaaDoorMh
import Derived.Test.YtcjhkpcnhnnjbaaDoorChK
import Derived.Test.YtcjhkpcnhnnjbaaDoorChM
import Derived.Test.YtcjhkpcnhnnjbaaDoorLabBs
namespace Go.Proofs.YtcjhkpcnhnnjbaaDoor
open Go.RowKit Go.Joins
open Cd (Sam Sm canS encS samD SamOK IsPack BitsTab DbTab)
set_option linter.unusedVariables false
theorem stream_lt : ∀ {cs : List (List Lab × List Sam)} {zs : List Nat}, (∀ c ∈ cs, canOK c.1 = true) → IsStream cs zs → ∀ x ∈ zs, x < 256 := by
  intro cs
  induction cs with
  | nil => intro zs _ h; obtain rfl : zs = [] := h; intro x hx; cases hx
  | cons c cs ih =>
    intro zs hc h x hx
    obtain ⟨p, r, hp, rfl, hr⟩ := h
    unfold chunkB at hx
    rcases List.mem_append.1 hx with hx | hx
    · rcases List.mem_append.1 hx with hx | hx
      · exact putB_lt _ _ x hx
      · rcases List.mem_append.1 hx with hx | hx
        · exact encTo_lt c.1 (hc c List.mem_cons_self) c.1.length (Nat.le_refl _) x hx
        · exact hp.2.1 x hx
    · exact ih (fun c hc' => hc c (List.mem_cons_of_mem _ hc')) hr x hx
theorem few_ok {w : World} {l : List Ser} (h : ∀ s ∈ l, s.ok w) : ∀ s ∈ fewL l 8 60, s.ok w := by
  intro s hs
  unfold fewL at hs
  obtain ⟨s0, h0, rfl⟩ := List.mem_map.1 hs
  exact Ser.cut_ok (h s0 (List.mem_of_mem_take ((List.mem_filter.1 h0).1))) 60
theorem allParts_le {l : List Ser} (h : ∀ s ∈ l, s.sl ≤ 60) : (allParts l).length ≤ 3 * l.length := by
  induction l with
  | nil => simp [allParts]
  | cons s l ih =>
    have h1 : (allParts (s :: l)).length = (partsOf s).length + (allParts l).length := by simp [allParts]
    have h2 : (partsOf s).length = (s.sl + 19) / 20 := by simp [partsOf]
    have h3 := h s List.mem_cons_self
    have h4 := ih (fun x hx => h x (List.mem_cons_of_mem _ hx))
    rw [h1, h2, List.length_cons]
    omega
theorem few_parts (l : List Ser) : (allParts (fewL l 8 60)).length ≤ 24 := by
  have h1 := fewL_len l 8 60
  have h2 := allParts_le (l := fewL l 8 60) (fun s hs => by
    unfold fewL at hs
    obtain ⟨s0, h0, rfl⟩ := List.mem_map.1 hs
    show min s0.sl 60 ≤ 60
    omega)
  omega
theorem parts_can {l : List Ser} (h : ∀ s ∈ l, canOK s.ls = true) : ∀ c ∈ (allParts l).map Ser.pl, canOK c.1 = true := by
  intro c hc
  obtain ⟨x, hx, rfl⟩ := List.mem_map.1 hc
  obtain ⟨s, hs, hx⟩ := List.mem_flatMap.1 hx
  unfold partsOf at hx
  obtain ⟨k, _, rfl⟩ := List.mem_map.1 hx
  exact h s hs
set_option maxHeartbeats 1000000 in
theorem chEncode_no (a : Option Addr) (len cap : Nat) (l : List Ser) (w : World) (h : Srs w a len l) (hc : canSr (l.map Ser.pl) = false) :
    Calls Tryd.prog 10 #[.slice a len cap] w fun e w' => e = .returned (.tuple #[.slice none 0 0, .int .i64 1]) ∧ Below w.heap.size w w' := by
  have HC := hidn (canSr_any a len cap l w h)
  have HCC := hidn hc
  clear hc
  go_enter Tryd.func10, Tryd.ntmps10
  go_wp2_with fail
  refine HC.out.mono ?_
  rintro e w1 ⟨rfl, b1⟩
  rw [HCC.out]
  go_wp2_with fail
  exact bodyPost_ret (v := .tuple #[.slice none 0 0, .int .i64 1]) (by simp [results, Tryd.results10, go_sem]) rfl ⟨rfl, b1⟩
set_option maxHeartbeats 1000000 in
theorem rchEncode_no (a : Option Addr) (len cap : Nat) (l : List Ser) (w : World) (h : Srs w a len l) (hc : canSr (l.map Ser.pl) = false) :
    Calls Tryd.prog 11 #[.slice a len cap] w fun e w' => e = .returned (.tuple #[.slice none 0 0, .int .i64 1]) ∧ Below w.heap.size w w' := by
  have HC := hidn (rcanSr_any a len cap l w h)
  go_enter Tryd.func11, Tryd.ntmps11
  go_wp2_with fail
  refine HC.out.mono ?_
  rintro e w1 ⟨rfl, b1⟩
  rw [hc]
  go_wp2_with fail
  exact bodyPost_ret (v := .tuple #[.slice none 0 0, .int .i64 1]) (by simp [results, Tryd.results11, go_sem]) rfl ⟨rfl, b1⟩
set_option maxHeartbeats 2000000 in
set_option maxRecDepth 100000 in
theorem chunkWrites_walk (HX : RefEncOK) (a : Option Addr) (len cap : Nat) (l : List Ser) (w : World) (h : Srs w a len l) (hT : BitsTab w) (hD : DbTab w) :
    Calls Tryd.prog 3 #[.slice a len cap] w fun e w' => e = .returned (.bool true) ∧ Below w.heap.size w w' := by
  have HF : Hid (Calls Tryd.prog 9 #[.slice a len cap, .int .i64 8, .int .i64 60] w (FewP w (fewL l 8 60))) := hidn (few_any a len cap 8 60 l w h (by decide) (by decide))
  have hok := few_ok h.2.2.2.1
  have hN : (allParts (fewL l 8 60)).length ≤ 400000 := Nat.le_trans (few_parts l) (by decide)
  have HN24 := hidn (few_parts l)
  have hLl := fewL_len l 8 60
  generalize fewL l 8 60 = L at *
  go_enter Tryd.func3, Tryd.ntmps3
  go_wp2_with fail
  refine HF.out.mono ?_
  rintro e w1 ⟨v, rfl, own, b1⟩
  obtain ⟨la, lc, rfl, hS⟩ := srs_of_own own (fun s hs => (hok s hs).below b1)
  obtain ⟨m, hm⟩ : ∃ m, m = L.length := ⟨_, rfl⟩
  rw [← hm] at hS ⊢
  have T1 := hT.below b1
  have D1 := hD.below b1
  by_cases hc : canSr (L.map Ser.pl) = true
  · have HE := hidn (chEncode_yes la m lc L w1 hS hc hN T1 D1)
    have hcan := parts_can (l := L) (fun s hs => (canSr_all hc s hs).1)
    have HCC := hidn hc
    clear own hok hm
    go_wp2_with fail
    refine HE.out.mono ?_
    rintro e w2 ⟨v1, zs, rfl, st1, own1, zl, b2⟩
    have hz := stream_lt hcan st1
    have hzz : zs.length ≤ 140737488355328 := by have := HN24.out; omega
    obtain ⟨n, hn⟩ : ∃ n, n = zs.length := ⟨_, rfl⟩
    rw [← hn] at own1 hzz
    have HNN := hidn hn
    obtain ⟨a1, c1, rfl, hb1⟩ := bs_of_own own1 hz
    have HR := hidn (rchEncode_yes HX la m lc L w2 (hS.below b2) hc hN)
    have HST := hidn st1
    clear own1 hz hc hcan st1 hn
    go_wp2_with fail
    refine HR.out.mono ?_
    rintro e w3 ⟨v2, ys, rfl, st2, own2, yl, b3⟩
    obtain rfl : ys = zs := IsStream.unique st2 HST.out
    have hz2 := stream_lt (parts_can (l := L) (fun s hs => (canSr_all HCC.out s hs).1)) st2
    rw [← HNN.out] at own2
    obtain ⟨a2, c2, rfl, hb2⟩ := bs_of_own own2 hz2
    have B2 := b1.trans (b2.mono b1.size)
    have B3 := B2.trans (b3.mono B2.size)
    have HQ := hidn (equalB_any a1 n c1 ys a2 n c2 ys w3 (hb1.below b3) hb2 hzz hzz)
    have hS3 := hS.below (b2.trans (b3.mono b2.size))
    clear own2 hz2 st2 HNN
    rw [decide_eq_true (rfl : ys = ys)] at HQ
    go_wp2_with fail
    refine HQ.out.mono ?_
    rintro e w4 ⟨rfl, b4⟩
    have B4 := B3.trans (b4.mono B3.size)
    have HC1 := hidn (canSr_any la m lc L w4 (hS3.below b4))
    rw [HCC.out] at HC1
    go_wp2_with fail
    refine HC1.out.mono ?_
    rintro e w5 ⟨rfl, b5⟩
    have B5 := B4.trans (b5.mono B4.size)
    have HC2 := hidn (rcanSr_any la m lc L w5 ((hS3.below b4).below b5))
    rw [HCC.out] at HC2
    go_wp2_with fail
    refine HC2.out.mono ?_
    rintro e w6 ⟨rfl, b6⟩
    have B6 := B5.trans (b6.mono B5.size)
    have HA := hidn (awake12 w6 (hT.below B6) (hD.below B6))
    go_wp2_with fail
    refine HA.out.mono ?_
    rintro e w7 ⟨rfl, b7⟩
    go_wp2_with fail
    exact bodyPost_ret (v := .bool true) (by simp [results, Tryd.results3, go_sem]) rfl ⟨rfl, B6.trans (b7.mono B6.size)⟩
  · have hc' : canSr (L.map Ser.pl) = false := Bool.eq_false_iff.2 hc
    have HCC := hidn hc'
    have HE := hidn (chEncode_no la m lc L w1 hS hc')
    clear own hok hm hc
    go_wp2_with fail
    refine HE.out.mono ?_
    rintro e w2 ⟨rfl, b2⟩
    have HR := hidn (rchEncode_no la m lc L w2 (hS.below b2) hc')
    go_wp2_with fail
    refine HR.out.mono ?_
    rintro e w3 ⟨rfl, b3⟩
    have B2 := b1.trans (b2.mono b1.size)
    have B3 := B2.trans (b3.mono B2.size)
    have HQ := hidn (equalB_any none 0 0 [] none 0 0 [] w3 (Bs.nil w3) (Bs.nil w3) (by decide) (by decide))
    have hS3 := hS.below (b2.trans (b3.mono b2.size))
    rw [decide_eq_true (rfl : ([] : List Nat) = [])] at HQ
    clear hc'
    go_wp2_with fail
    refine HQ.out.mono ?_
    rintro e w4 ⟨rfl, b4⟩
    have B4 := B3.trans (b4.mono B3.size)
    have HC1 := hidn (canSr_any la m lc L w4 (hS3.below b4))
    rw [HCC.out] at HC1
    go_wp2_with fail
    refine HC1.out.mono ?_
    rintro e w5 ⟨rfl, b5⟩
    have B5 := B4.trans (b5.mono B4.size)
    have HC2 := hidn (rcanSr_any la m lc L w5 ((hS3.below b4).below b5))
    rw [HCC.out] at HC2
    go_wp2_with fail
    refine HC2.out.mono ?_
    rintro e w6 ⟨rfl, b6⟩
    have B6 := B5.trans (b6.mono B5.size)
    have HA := hidn (awake12 w6 (hT.below B6) (hD.below B6))
    go_wp2_with fail
    refine HA.out.mono ?_
    rintro e w7 ⟨rfl, b7⟩
    go_wp2_with fail
    exact bodyPost_ret (v := .bool true) (by simp [results, Tryd.results3, go_sem]) rfl ⟨rfl, B6.trans (b7.mono B6.size)⟩
end Go.Proofs.YtcjhkpcnhnnjbaaDoor
