/- codec.Decode: a contract at all bytes. -/
import Derived.Test.YtfgfkifdokeefaaDoorCodD
import Derived.Test.YtfgfkifdokeefaaDoorGetWalk
namespace Go.Proofs.YtfgfkifdokeefaaDoor.Cd
open Go.RowKit Go.Joins
set_option linter.unusedVariables false
set_option linter.unusedSimpArgs false

theorem putB_getB : ∀ (k : Nat) (xs : List Nat), xs.length = k → isB xs → putB (getB 0 xs) k = xs := by
  intro k
  induction k with
  | zero => intro xs h _; rw [List.length_eq_zero_iff.1 h]; rfl
  | succ k ih =>
    intro xs h hb
    obtain ⟨ys, y, rfl⟩ : ∃ ys y, xs = ys ++ [y] := ⟨xs.dropLast, xs.getLast (by intro h0; rw [h0] at h; simp at h), (List.dropLast_concat_getLast _).symm⟩
    have hy : y < 256 := hb y (by simp)
    have hl : ys.length = k := by simpa using h
    rw [getB_snoc, putB, show (getB 0 ys * 256 + y) / 256 = getB 0 ys from by omega, show (getB 0 ys * 256 + y) % 256 = y from by omega, ih ys hl (fun x hx => hb x (by simp [hx]))]

theorem encS_body (l : List Sam) : encS l = lowBits l.length 16 ++ bodyTo l l.length := encTo_body l l.length

theorem pack_split {zs : List Nat} {l : List Sam} (hb : isB zs) (hl : l.length ≤ 65535) (h2 : 2 ≤ zs.length) :
    IsPack zs (encS l) ↔ getB 0 (zs.take 2) = l.length ∧ IsPack (zs.drop 2) (bodyTo l l.length) := by
  have ht2 : (zs.take 2).length = 2 := by rw [List.length_take]; omega
  constructor
  · intro h
    have hlen : 8 * 2 ≤ (encS l).length := by rw [encS_body, List.length_append, lowBits_length]; omega
    have h1 := pack_take h 2 hlen
    have h3 := pack_drop h 2 hlen
    have e1 : (encS l).take (8 * 2) = lowBits l.length 16 := by
      rw [encS_body, List.take_append_of_le_length (by rw [lowBits_length]; omega), List.take_of_length_le (by rw [lowBits_length]; omega)]
    have e2 : (encS l).drop (8 * 2) = bodyTo l l.length := by
      rw [encS_body, List.drop_append_of_le_length (by rw [lowBits_length]; omega), List.drop_of_length_le (by rw [lowBits_length]; omega), List.nil_append]
    rw [e1] at h1
    rw [e2] at h3
    refine ⟨?_, h3⟩
    have := IsPack.unique h1 (putB_pack l.length 2)
    rw [this, getB_putB, Nat.mod_eq_of_lt (by omega)]
  · rintro ⟨h1, h3⟩
    have e := putB_getB 2 (zs.take 2) ht2 (isB_take hb 2)
    rw [h1] at e
    have hp := pack_app (isB_take hb 2) h3
    rw [List.take_append_drop, ht2, ← e] at hp
    have hbits := (putB_pack l.length 2).bits
    rw [lowBits_length] at hbits
    rw [hbits] at hp
    rw [encS_body]; exact hp

theorem pack_at {ys : List Nat} {L : List Bool} (h : IsPack ys L) : At ys (8 * ys.length) 0 L ∧ 8 * ys.length < L.length + 8 ∧ ∀ i, L.length ≤ i → bitAt ys i = false := by
  have h1 := h.1
  refine ⟨⟨by rw [h1]; unfold nb; omega, fun i hi => by rw [Nat.zero_add]; exact h.2.2 i⟩, by rw [h1]; unfold nb; omega, fun i hi => ?_⟩
  rw [h.2.2 i, List.getD_eq_getElem?_getD, List.getElem?_eq_none hi]; rfl

theorem at_pack {ys : List Nat} {L : List Bool} (hb : isB ys) (h : At ys (8 * ys.length) 0 L) (hl : 8 * ys.length < L.length + 8) (hz : ∀ i, L.length ≤ i → i < 8 * ys.length → bitAt ys i = false) : IsPack ys L := by
  have h1 := h.1
  refine ⟨by unfold nb; omega, hb, fun i => ?_⟩
  by_cases hi : i < L.length
  · have := h.2 i hi; rwa [Nat.zero_add] at this
  · rw [List.getD_eq_getElem?_getD, List.getElem?_eq_none (by omega)]
    by_cases h2 : i < 8 * ys.length
    · exact hz i (by omega) h2
    · exact bitAt_out ys i (by omega)

theorem win_zero {zs : List Nat} {q c : Nat} : numOf (win zs q c) = 0 ↔ ∀ i, i < c → bitAt zs (q + i) = false := by
  constructor
  · intro h i hi
    have e := win_low zs q c
    rw [h] at e
    have h1 : (win zs q c).getD i false = (lowBits 0 c).getD i false := by rw [e]
    have h2 : (win zs q c).getD i false = bitAt zs (q + i) := by simp [win, hi]
    rw [h2, lowBits_getD _ _ _ hi] at h1
    simpa using h1
  · intro h
    have e : win zs q c = lowBits 0 c := by
      refine bools_ext (by rw [win_length, lowBits_length]) fun i => ?_
      by_cases hi : i < c
      · rw [lowBits_getD _ _ _ hi]
        have h2 : (win zs q c).getD i false = bitAt zs (q + i) := by simp [win, hi]
        rw [h2, h i hi]; simp
      · rw [List.getD_eq_getElem?_getD, List.getElem?_eq_none (by rw [win_length]; omega), List.getD_eq_getElem?_getD, List.getElem?_eq_none (by rw [lowBits_length]; omega)]
    rw [e, numOf_lowBits]; simp

theorem own_mono2 {w : World} {base base' e size n : Nat} {v : Value} {xs : List Value} (h : w.ownsRow base e size v n xs) (hb : base' ≤ base) : w.ownsRow base' e size v n xs := by
  refine ⟨h.1, ?_⟩
  rcases h.2 with h1 | ⟨g, c, cur, hv, hg, r⟩
  · exact .inl h1
  · exact .inr ⟨g, c, cur, hv, by omega, r⟩

/-- What Decode answers. -/
def DPost (w w' : World) (zs : List Nat) (e : Ending) : Prop :=
  ((∃ (l : List Sam) (v : Value), e = .returned (.tuple #[v, .int .i64 0]) ∧ canS l = true ∧ SamsOK l ∧ IsPack zs (encS l) ∧ w'.ownsRow w.heap.size 50 2 v l.length (vsm l)) ∨
    (e = .returned (.tuple #[.slice none 0 0, .int .i64 5]) ∧ ∀ l, SamsOK l → canS l = true → ¬ IsPack zs (encS l))) ∧ Below w.heap.size w w'

theorem encS_len16 (l : List Sam) : 16 ≤ (encS l).length := by rw [encS_body, List.length_append, lowBits_length]; omega

end Go.Proofs.YtfgfkifdokeefaaDoor.Cd
