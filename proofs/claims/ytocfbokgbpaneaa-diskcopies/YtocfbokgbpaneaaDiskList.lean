/- The disk: the names of all files. -/
import Derived.Test.YtocfbokgbpaneaaMb
import Derived.Test.YtocfbokgbpaneaaMc
import Derived.Test.YtocfbokgbpaneaaIter
namespace Go.Proofs.Ytocfbokgbpaneaa
open Go.RowKit Go.Maps
set_option linter.unusedVariables false
/-- The names of a disk's files, rising. -/
def Names (M : List UInt8 → List Ext) (ts : List (List UInt8)) : Prop := ts.Nodup ∧ ts.Pairwise (fun a b => a ≤ b) ∧ (∀ s, s ∈ ts ↔ M s ≠ []) ∧ ∀ s ∈ ts, s.length ≤ maxLen
theorem has_iff {w : World} {d N : Nat} {F : Nat → Prop} {M : List UInt8 → List Ext} {free fuse : Int} {bm : Nat} {D : DataW Unit} {G C : List UInt8 → Nat} (h : DiskIs w d F N M free fuse bm D G C) (s : List UInt8) : Maps.has D (.string s) = true ↔ M s ≠ [] := by
  obtain ⟨h1, h2, h3, h4, h5, h6, h7⟩ := h
  constructor
  · intro hs he
    rw [h5 s he] at hs
    cases hs
  · intro hne
    cases hc : Maps.has D (.string s) with
    | true => rfl
    | false =>
      have e1 := (h6 s hne).1 .nil
      rw [atKey_of_not_has hc] at e1
      simp [encS] at e1
theorem names_of {w : World} {d N : Nat} {F : Nat → Prop} {M : List UInt8 → List Ext} {free fuse : Int} {bm : Nat} {D : DataW Unit} {G C : List UInt8 → Nat} (h : DiskIs w d F N M free fuse bm D G C) {ss : List (List UInt8)} (hp : ss.Perm (strKeys D)) : Names M (ss.mergeSort (fun x y => decide (x ≤ y))) := by
  have hh := has_iff h
  obtain ⟨h1, h2, h3, h4, h5, h6, h7⟩ := h
  have hle := strKeys_le h4 Try.underlying9
  obtain ⟨es, hD, hpw, _⟩ := h4.entries lawS
  obtain ⟨es', hD', hko⟩ := h4.keysOf
  obtain rfl : es = es' := by rw [hD] at hD'; simpa using hD'
  subst hD
  have hk : ∀ p ∈ es, ∃ x, p.1 = .string x := fun p hp => by
    obtain ⟨v, hv⟩ := hko p hp
    obtain ⟨x, _, hx, _⟩ := Maps.keyOf_str Try.underlying9 hv
    exact ⟨x, hx⟩
  have hnd : (strKeys (.map es)).Nodup := by
    show (es.map fun p => strOf p.1).Nodup
    refine List.pairwise_map.2 (hpw.imp_of_mem fun {p q} hp' hq' hne e => hne ?_)
    obtain ⟨a, ha⟩ := hk p hp'
    obtain ⟨b, hb⟩ := hk q hq'
    rw [ha, hb] at e ⊢
    exact congrArg _ e
  have hmem : ∀ x, x ∈ strKeys (.map es) ↔ M x ≠ [] := by
    intro x
    rw [← hh x, has_eq, List.any_eq_true]
    show x ∈ es.map (fun p => strOf p.1) ↔ _
    rw [List.mem_map]
    constructor
    · rintro ⟨p, hp', rfl⟩
      obtain ⟨a, ha⟩ := hk p hp'
      exact ⟨p, hp', by rw [ha]; simp [Lit.sameKey, strOf]⟩
    · rintro ⟨p, hp', hs⟩
      obtain ⟨a, ha⟩ := hk p hp'
      rw [ha] at hs
      exact ⟨p, hp', by rw [ha]; simpa [Lit.sameKey, strOf] using hs⟩
  have hP := (List.mergeSort_perm ss (fun x y => decide (x ≤ y))).trans hp
  refine ⟨hP.nodup_iff.2 hnd, ?_, fun s => (hP.mem_iff).trans (hmem s), fun s hs => hle s ((hP.mem_iff).1 hs)⟩
  have h := List.pairwise_mergeSort (le := fun x y : List UInt8 => decide (x ≤ y)) (fun a b c h1 h2 => by simp only [decide_eq_true_eq] at *; exact List.le_trans h1 h2) (fun a b => by simp only [Bool.or_eq_true, decide_eq_true_eq]; exact List.le_total a b) ss
  exact h.imp (fun h => of_decide_eq_true h)

set_option maxHeartbeats 2000000 in
theorem list_disk (w : World) (d : Nat) (F : Nat → Prop) (N : Nat) (M : List UInt8 → List Ext) (free fuse : Int) (h : DiskOf w d F N M free fuse) (hN : N ≤ 1000000) :
    Calls Try.prog 29 #[.pointer (some ⟨d, 0, none⟩)] w fun e w' => ∃ v ts, e = .returned v ∧ Names M ts ∧ w'.ownsRow w.heap.size 9 1 v ts.length (ts.map encStr) ∧ Below w.heap.size w w' := by
  obtain ⟨bm, D, G, C, hI⟩ := h.is
  have c0 := hI.c0
  have hown : w.ownsMap Try.prog 9 hd bm N D := hI.2.2.2.1
  have hsz := hown.size_le
  have hnm := fun ss hp => names_of hI (ss := ss) hp
  have hmax : Maps.size D ≤ maxLen := by unfold maxLen; omega
  have hbytes : Maps.size D * 16 ≤ 140737488355328 := by omega
  clear hI hsz
  have HK := fun wx => callsIn_wide.1 (Try.maps_Keys_51 (some bm) wx)
  have HS := callsIn_wide.1 (Try.slices_Sorted_keys_50_51 bm N D hd w hown hmax hbytes)
  have HK' := hidn HK
  have HS' := hidn HS
  clear HK HS hmax hbytes hown
  go_enter Try.func29, Try.ntmps29
  go_wp2_with fail
  refine (isMade_any _ d F N M free fuse h).mono ?_
  rintro e w1 ⟨rfl, rfl⟩
  go_wp2_with fail
  refine (HK'.out _).mono ?_
  rintro e w2 ⟨rfl, rfl⟩
  go_wp2_with fail
  refine HS'.out.mono ?_
  rintro e w3 ⟨v, ss, rfl, hS, hrow, hnil, hb⟩
  go_wp2_with fail
  go_ret
  refine ⟨v, _, rfl, hnm ss hS, ?_, ((Below.refl _ _).alloc (Nat.le_refl _) _).trans (hb.mono (by simp))⟩
  rw [List.length_mergeSort]
  exact ownsRow_base_a hrow (by simp)
end Go.Proofs.Ytocfbokgbpaneaa
