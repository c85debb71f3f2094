/- PlanLive: the law. -/
import Derived.Test.YtpbicnpaldfamaaPlLb
import Derived.Test.YtpbicnpaldfamaaPlFl
namespace Go.Proofs.Ytpbicnpaldfamaa
open Go.RowKit Go.Joins
set_option linter.unusedVariables false

set_option maxHeartbeats 1000000 in
set_option maxRecDepth 100000 in
theorem planLive_walk (a : Option Addr) (len cap : Nat) (l0 : List Fo) (gen fl : Int) (w : World) (h0 : Fls w a len l0) (hW0 : FoW l0) (hc0 : len ≤ cap) (hps0 : ∀ d ∈ l0, d.pl ≤ 1048576) :
    Calls Try.prog 3 #[.slice a len cap, .int .i64 gen, .int .i64 fl] w fun e w' => e = .returned (.bool true) ∧ Below w.heap.size w w' := by
  obtain ⟨n, hn, hn14, HC⟩ := cut_any a len cap w hc0
  have HC2 := hidn HC
  clear HC
  have h := h0.take n hn
  have hW : FoW (l0.take n) := fun d hd => hW0 d (List.mem_of_mem_take hd)
  have hps : ∀ d ∈ l0.take n, d.pl ≤ 1048576 := fun d hd => hps0 d (List.mem_of_mem_take hd)
  generalize l0.take n = l at *
  have H1 := hidn (live_any a n cap l gen fl w h hW (by omega) hps)
  have H2 := hidn (fun w2 (b : Below w.heap.size w w2) => refLive_any a n cap l gen fl w2 (h.below b) (by omega) hps)
  clear h0 hc0 hW0 hps0
  go_enter Try.func3, Try.ntmps3
  go_wp2_with fail
  refine HC2.out.mono ?_
  rintro e w0 ⟨rfl, rfl⟩
  go_wp2_with fail
  refine H1.out.mono ?_
  rintro e w1 ⟨v, l', rfl, hO, hpv, hl14, b1⟩
  have hq14 : (sortE l').length ≤ 14 := by rw [sortE_len]; exact hl14
  have HPV := hidn hpv
  clear hpv hl14 H1 hps hW
  obtain ⟨va, vc, rfl, hF, hvc⟩ := hO.fls
  obtain ⟨q, hq0⟩ : ∃ q, q = (sortE l').length := ⟨_, rfl⟩
  have HQ := hidn hq0
  rw [← hq0] at hF hvc hq14 ⊢
  have HF := hidn hF
  clear hq0 hO hF
  go_wp2_with fail
  refine (H2.out w1 b1).mono ?_
  rintro e w2 ⟨v2, l2, rfl, hO2, hpv2, hl2, b2⟩
  have hpp : (sortE l').map Fo.pv = (sortE l2).map Fo.pv := pv_sort (HPV.out.trans hpv2.symm)
  have hlq : (sortE l2).length = q := by
    have := congrArg List.length hpp
    simp only [List.length_map] at this
    rw [← this, HQ.out]
  obtain ⟨va2, vc2, rfl, hF2, hvc2⟩ := hO2.fls
  rw [hlq] at hF2 ⊢
  have HSF := hidn (sameFooters_same va va2 q vc vc2 (sortE l') (sortE l2) w2 (HF.out.below b2) hF2 hpp hq14)
  have B2 := b1.trans (b2.mono b1.size)
  clear hpp hlq hO2 hF2 hvc2 hl2 hpv2
  go_wp2_with fail
  refine HSF.out.mono ?_
  rintro e w3 ⟨rfl, b3⟩
  have B3 := B2.trans (b3.mono B2.size)
  go_wp2_with fail
  refine (awake16 _).mono ?_
  rintro e w9 ⟨rfl, rfl⟩
  go_wp2_with fail
  exact bodyPost_ret (v := .bool true) (by simp [results, Try.results3, go_sem]) rfl ⟨rfl, B3⟩

end Go.Proofs.Ytpbicnpaldfamaa
