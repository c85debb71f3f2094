/- plan.Merge. -/
import Derived.Test.YtjckfcholnkleaaPlD
namespace Go.Proofs.Ytjckfcholnkleaa
open Go.RowKit Go.Joins
set_option linter.unusedVariables false
def okM (f g h : Fo) : Bool := decide (f.lv = g.lv) && decide (g.lv = h.lv) && decide (f.lv < 3)
def mergeL : List Fo → List Int
  | f :: g :: h :: t => if okM f g h then [f.nu, g.nu, h.nu] else mergeL (g :: h :: t)
  | _ => []
theorem mergeL_short {l : List Fo} (h : l.length < 3) : mergeL l = [] := by
  match l, h with
  | [], _ => rfl
  | [_], _ => rfl
  | [_, _], _ => rfl
theorem canMergeL_three (f g h : Fo) : canMergeL [f, g, h] = okM f g h := by
  simp only [canMergeL, List.all_cons, List.all_nil, okLv, okM, Bool.and_true]
  by_cases h1 : f.lv = g.lv <;> by_cases h2 : g.lv = h.lv <;> by_cases h3 : f.lv < 3
  all_goals simp_all
  all_goals omega
theorem three {l : List Fo} {k : Nat} (h : k + 3 ≤ l.length) : ∃ f g x t, l.drop k = f :: g :: x :: t ∧ (l.drop k).take 3 = [f, g, x] ∧ l[k]? = some f ∧ l[k + 1]? = some g ∧ l[k + 2]? = some x ∧ l.drop (k + 1) = g :: x :: t := by
  have hl : (l.drop k).length = l.length - k := List.length_drop ..
  match hd : l.drop k with
  | [] => rw [hd] at hl; simp at hl; omega
  | [_] => rw [hd] at hl; simp at hl; omega
  | [_, _] => rw [hd] at hl; simp at hl; omega
  | f :: g :: x :: t =>
    have e : ∀ j, l[k + j]? = (f :: g :: x :: t)[j]? := fun j => by rw [← hd, List.getElem?_drop]
    refine ⟨f, g, x, t, rfl, rfl, e 0, e 1, e 2, ?_⟩
    rw [← List.drop_drop, hd]
    rfl
theorem min14 (len : Nat) : ∃ n : Nat, n ≤ len ∧ n ≤ 14 ∧ min (len : Int) 14 = (n : Int) ∧ (if (14 : Int) < (len : Int) then (14 : Int) else (len : Int)) = (n : Int) := by
  refine ⟨min len 14, by omega, by omega, by omega, ?_⟩
  split <;> omega
set_option maxHeartbeats 2000000 in
set_option maxRecDepth 100000 in
theorem merge_any (a : Option Addr) (len cap : Nat) (l : List Fo) (w : World) (h : Fls w a len l) (hm : len ≤ 1000000) (hc : len ≤ cap) :
    Calls Try.prog 15 #[.slice a len cap] w (OwnI w (mergeL l)) := by
  have hlen := hidn h.1
  obtain ⟨Z, hZ⟩ : ∃ Z, Z = mergeL l := ⟨_, rfl⟩
  rw [← hZ]
  have HZ := hidn hZ
  clear hZ
  go_enter Try.func15, Try.ntmps15
  go_wp2_with fail
  go_loopw [3] (fun iv wr => ∃ (q : Nat), 3 ≤ q ∧ q ≤ len + 3 ∧ iv = .int .i64 (q : Int) ∧ Hid (Z = mergeL (l.drop (q - 3))) ∧ Below w.heap.size w wr) (fun iv _ => len + 3 - (intOf iv).toNat)
  case atStart => exact ⟨3, by omega, by omega, rfl, hidn (by rw [HZ.out]; rfl), Below.refl _ _⟩
  case round =>
    obtain ⟨q, hq3, hq, rfl, hO, hb⟩ := hrel
    by_cases hlt : q ≤ len
    · have hlt2 : (q : Int) ≤ (len : Int) := by omega
      obtain ⟨p, hp⟩ : ∃ p, q = p + 3 := ⟨q - 3, by omega⟩
      obtain ⟨f, g, x, t, e1, e2, e3, e4, e5, e6⟩ := three (l := l) (k := p) (by rw [hlen.out]; omega)
      obtain ⟨b, off, rfl, hbk, _⟩ := (h.below hb).at e3
      have hD := (((h.below hb).drop p (by omega)).take 3 (by omega))
      rw [e2] at hD
      have HCM := hidn (canMerge_any (some ⟨b, off + p * 8, none⟩) 3 (cap - p) [f, g, x] wr hD (by omega))
      rw [canMergeL_three] at HCM
      have hqp : (q : Int) - 3 = (p : Int) := by omega
      have hpc : ¬ (cap = p) := by omega
      have hpc2 : ¬ ((cap : Int) = (p : Int)) := by omega
      have hqc : (q : Int) ≤ (cap : Int) := by omega
      have hpq : (p : Int) ≤ (q : Int) := by omega
      have hq3' : q - p = 3 := by omega
      have HE : Hid (mergeL (l.drop (q - 3)) = if okM f g x then [f.nu, g.nu, x.nu] else mergeL (l.drop (q + 1 - 3))) := hidn (by
        rw [show q - 3 = p from by omega, show q + 1 - 3 = p + 1 from by omega, e1, e6]; rfl)
      clear hp e1 e2 e3 e4 e5 e6
      go_wp2_with fail
      refine HCM.out.mono ?_
      rintro e w1 ⟨rfl, b1⟩
      have B1 := hb.trans (b1.mono hb.size)
      cases hok : okM f g x with
      | true =>
        have HN : Hid (Z = [f.nu, g.nu, x.nu]) := hidn (by rw [hO.out, HE.out, hok, if_pos rfl])
        have HNU := hidn (numbers_any (some ⟨b, off + p * 8, none⟩) 3 (cap - p) [f, g, x] w1 (hD.below b1) (by omega))
        clear hok HE
        go_wp2_with fail
        refine HNU.out.mono ?_
        rintro e w2 ⟨rfl, o2, b2⟩
        have B2 := B1.trans (b2.mono B1.size)
        have O2 : Hid (OwnI w Z (.returned (.slice (some ⟨w1.heap.size, 0, none⟩) 3 3)) w2) := hidn ⟨_, rfl, by rw [HN.out]; exact own_lower o2 B1.size, B2⟩
        clear o2
        go_wp2_with fail
        exact bodyPost_ret (v := .slice (some ⟨w1.heap.size, 0, none⟩) 3 3) (by simp [results, Try.results15, go_sem]) rfl O2.out
      | false =>
        have HN : Hid (Z = mergeL (l.drop (q + 1 - 3))) := hidn (by rw [hO.out, HE.out, hok, if_neg (by simp)])
        clear hok HE
        go_wp2_with fail
        exact ⟨⟨q + 1, by omega, by omega, by simp, HN, B1⟩, by simp [intOf]; omega⟩
    · have hlt2 : ¬ (q : Int) ≤ (len : Int) := by omega
      have HN : Hid (Z = []) := hidn (by
        rw [hO.out]
        exact mergeL_short (by rw [List.length_drop, hlen.out]; omega))
      go_wp2_with fail
      exact bodyPost_ret (v := .slice none 0 0) (by simp [results, Try.results15, go_sem]) rfl ⟨_, rfl, by rw [HN.out]; exact World.ownsRow_nil _ _ _ _, hb⟩
set_option maxHeartbeats 4000000 in
set_option maxRecDepth 100000 in
theorem refMerge_any (a : Option Addr) (len cap : Nat) (l : List Fo) (w : World) (h : Fls w a len l) (hm : len ≤ 1000000) (hc : len ≤ cap) :
    Calls Try.prog 16 #[.slice a len cap] w (OwnI w (mergeL l)) := by
  have hlen := hidn h.1
  obtain ⟨Z, hZ⟩ : ∃ Z, Z = mergeL l := ⟨_, rfl⟩
  rw [← hZ]
  have HZ := hidn hZ
  clear hZ
  go_enter Try.func16, Try.ntmps16
  go_wp2_with fail
  go_loopw [3] (fun iv wr => ∃ (p : Nat), p ≤ len ∧ iv = .int .i64 (p : Int) ∧ Hid (Z = mergeL (l.drop p)) ∧ Below w.heap.size w wr) (fun iv _ => len - (intOf iv).toNat)
  case atStart => exact ⟨0, by omega, rfl, hidn (by rw [HZ.out]; rfl), Below.refl _ _⟩
  case round =>
    obtain ⟨p, hp, rfl, hO, hb⟩ := hrel
    by_cases hlt : p + 2 < len
    · have hlt2 : (p : Int) + 2 < (len : Int) := by omega
      have hlt1 : (p : Int) + 1 < (len : Int) := by omega
      have hlt0 : (p : Int) < (len : Int) := by omega
      obtain ⟨f, g, x, t, e1, e2, e3, e4, e5, e6⟩ := three (l := l) (k := p) (by rw [hlen.out]; omega)
      obtain ⟨b, off, rfl, hbk, n0, -, l0, -⟩ := (h.below hb).at e3
      obtain ⟨_, _, e, -, n1, -, l1, -⟩ := (h.below hb).at e4
      cases e
      obtain ⟨_, _, e, -, n2, -, l2, -⟩ := (h.below hb).at e5
      cases e
      have HE : Hid (mergeL (l.drop p) = if okM f g x then [f.nu, g.nu, x.nu] else mergeL (l.drop (p + 1))) := hidn (by
        rw [e1, e6]; rfl)
      clear e1 e2 e3 e4 e5 e6
      have HK : Hid (okM f g x = (decide (f.lv = g.lv) && decide (g.lv = x.lv) && decide (f.lv < 3))) := hidn rfl
      generalize okM f g x = ok at *
      generalize f.lv = v0 at *
      generalize g.lv = v1 at *
      generalize x.lv = v2 at *
      generalize f.nu = m0 at *
      generalize g.nu = m1 at *
      generalize x.nu = m2 at *
      clear f g x
      have bd : Below w.heap.size w wr.drew := hb.drew
      by_cases h1 : v0 = v1
      · have h1' : (v0 == v1) = true := by simp [h1]
        by_cases h2 : v1 = v2
        · have h2' : (v1 == v2) = true := by simp [h2]
          by_cases h3 : v0 < 3
          · have HN : Hid (Z = [m0, m1, m2]) := hidn (by rw [hO.out, HE.out, HK.out, if_pos (by simp [h1, h2]; omega)])
            clear h1 h2 HK HE
            go_wp2_with fail
            go_region
            go_wp2_with fail
            go_region
            go_wp2_with fail
            refine bodyPost_ret (v := .slice (some ⟨wr.heap.size, 0, none⟩) 3 3) (by simp [results, Try.results16, go_sem]) rfl ⟨_, rfl, ?_, ?_⟩
            · rw [HN.out]
              exact own_of_blk (g := wr.heap.size) (cur := #[.int .i64 m0, .int .i64 m1, .int .i64 m2]) (heap_alloc_new wr.drew.drew _) hb.size rfl rfl (by decide)
            · exact bd.drew.alloc bd.size _
          · have HN : Hid (Z = mergeL (l.drop (p + 1))) := hidn (by rw [hO.out, HE.out, HK.out, if_neg (by simp [h3])])
            clear h1 h2 HK HE
            go_wp2_with fail
            go_region
            go_wp2_with fail
            exact ⟨⟨p + 1, by omega, by simp, HN, bd⟩, by simp [intOf]; omega⟩
        · have h2' : (v1 == v2) = false := by simp [h2]
          have HN : Hid (Z = mergeL (l.drop (p + 1))) := hidn (by rw [hO.out, HE.out, HK.out, if_neg (by simp [h2])])
          clear h1 h2 HK HE
          go_wp2_with fail
          go_region
          go_wp2_with fail
          exact ⟨⟨p + 1, by omega, by simp, HN, bd⟩, by simp [intOf]; omega⟩
      · have h1' : (v0 == v1) = false := by simp [h1]
        have HN : Hid (Z = mergeL (l.drop (p + 1))) := hidn (by rw [hO.out, HE.out, HK.out, if_neg (by simp [h1])])
        clear h1 HK HE
        go_wp2_with fail
        go_region
        go_wp2_with fail
        exact ⟨⟨p + 1, by omega, by simp, HN, bd⟩, by simp [intOf]; omega⟩
    · have hlt2 : ¬ (p : Int) + 2 < (len : Int) := by omega
      have HN : Hid (Z = []) := hidn (by
        rw [hO.out]
        exact mergeL_short (by rw [List.length_drop, hlen.out]; omega))
      go_wp2_with fail
      exact bodyPost_ret (v := .slice none 0 0) (by simp [results, Try.results16, go_sem]) rfl ⟨_, rfl, by rw [HN.out]; exact World.ownsRow_nil _ _ _ _, hb⟩
end Go.Proofs.Ytjckfcholnkleaa
