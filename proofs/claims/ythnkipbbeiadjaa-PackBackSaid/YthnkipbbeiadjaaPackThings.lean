/-
  THINGS WRITTEN AND READ BACK, AS PLAIN FUNCTIONS: what stands whole is read, what is cut off is wrong. No program's step, no condition of its own.
-/
import Derived.Test.YthnkipbbeiadjaaPackOps
namespace Go.Proofs.Ythnkipbbeiadjaa

/-- The bytes of one thing. -/
def thing (o : OpV) : List UInt8 := if o.kind = 0 then Lib.uvarint o.num else if o.kind = 1 then Lib.uvarint o.str.size ++ o.str.data.toList else [if o.yes then 1 else 0]
def things (L : List OpV) : List UInt8 := L.flatMap thing

theorem things_take (L : List OpV) (k : Nat) (h : k < L.length) : things (L.take (k + 1)) = things (L.take k) ++ thing L[k] := by
  unfold things
  rw [List.take_succ_eq_append_getElem h, List.flatMap_append]
  simp
theorem things_drop (L : List OpV) (k : Nat) (h : k < L.length) : things (L.drop k) = thing L[k] ++ things (L.drop (k + 1)) := by
  unfold things
  rw [List.drop_eq_getElem_cons h, List.flatMap_cons]

theorem thing_pos (o : OpV) : 0 < (thing o).length := by
  unfold thing
  have h := Lib.uvarint_pos
  split
  · exact h _
  · split
    · rw [List.length_append]; have := h o.str.size; omega
    · simp

theorem things_pos (L : List OpV) (h : 0 < L.length) : 0 < (things L).length := by
  have := things_drop L 0 h
  rw [List.drop_zero] at this
  rw [this, List.length_append]
  have := thing_pos L[0]
  omega

theorem num_full (M n : Nat) (hn : n < 18446744073709551616) (hM : n ≤ M) (r : List UInt8) : rNum M (some (Lib.uvarint n ++ r)) = (n, some r) := by
  simp only [rNum, numAt_uvarint n hn r, if_pos hM]
  simp

theorem num_cut (M n : Nat) (hn : n < 18446744073709551616) (p q : List UInt8) (hq : q ≠ []) (h : p ++ q = Lib.uvarint n) : rNum M (some p) = (0, none) := by
  simp only [rNum, numAt_cut n hn p q hq h]

theorem text_full (s r : List UInt8) (hs : s.length ≤ 100) : rText 100 (some (Lib.uvarint s.length ++ s ++ r)) = (s, some r) := by
  unfold rText
  rw [List.append_assoc, num_full 100 s.length (by omega) hs]
  simp [rTextOf]

theorem text_cut (s p q : List UInt8) (hs : s.length ≤ 100) (hq : q ≠ []) (h : p ++ q = Lib.uvarint s.length ++ s) : rText 100 (some p) = ([], none) := by
  unfold rText
  rcases List.append_eq_append_iff.1 h with ⟨a, h1, h2⟩ | ⟨c, h1, h2⟩
  · by_cases ha : a = []
    · subst ha
      rw [List.append_nil] at h1
      have e := num_full 100 s.length (by omega) hs []
      rw [List.append_nil, h1] at e
      rw [e]
      have : 0 < q.length := List.length_pos_iff.2 hq
      rw [h2, List.nil_append] at this
      simp only [rTextOf, List.length_nil]
      rw [if_neg (Nat.not_le.2 this)]
    · rw [num_cut 100 s.length (by omega) p a ha h1.symm]
      rfl
  · rw [h1, num_full 100 s.length (by omega) hs]
    have : 0 < q.length := List.length_pos_iff.2 hq
    have hl := congrArg List.length h2
    rw [List.length_append] at hl
    simp only [rTextOf]
    rw [if_neg (by omega)]

theorem yes_full (b : Bool) (r : List UInt8) : rYes (some ([if b then 1 else 0] ++ r)) = (b, some r) := by
  have h : rNum 1 (some ([if b then 1 else 0] ++ r)) = ((if b then 1 else 0), some r) := by
    have e : ([if b then 1 else 0] : List UInt8) = Lib.uvarint (if b then 1 else 0) := (uvarint_bit b).symm
    rw [e]
    exact num_full 1 _ (by cases b <;> decide) (by cases b <;> decide) r
  simp only [rYes, h]
  cases b <;> rfl

theorem yes_cut (c : UInt8) (p q : List UInt8) (hq : q ≠ []) (h : p ++ q = [c]) : rYes (some p) = (false, none) := by
  have : p = [] := by
    cases p with
    | nil => rfl
    | cons x t =>
      rw [List.cons_append] at h
      have := (List.cons.inj h).2
      exact absurd (List.append_eq_nil_iff.1 this).2 hq
  subst this
  decide

/-- A reader of what was cut off, i things on: it is wrong, or it stands before a beginning of the rest that is not the whole. -/
def Cut (L : List OpV) (i : Nat) (st : Option (List UInt8)) : Prop := st = none ∨ ∃ p q, st = some p ∧ q ≠ [] ∧ p ++ q = things (L.drop i)

theorem cut_step {L : List OpV} {i : Nat} (hi : i < L.length) (f : Option (List UInt8) → Option (List UInt8)) (h0 : f none = none) (h1 : ∀ r, f (some (thing L[i] ++ r)) = some r)
    (h2 : ∀ p q, q ≠ [] → p ++ q = thing L[i] → f (some p) = none) {st : Option (List UInt8)} (h : Cut L i st) : Cut L (i + 1) (f st) := by
  rcases h with rfl | ⟨p, q, rfl, hq, h⟩
  · exact .inl h0
  · rw [things_drop L i hi] at h
    rcases List.append_eq_append_iff.1 h with ⟨a, e1, e2⟩ | ⟨c, e1, e2⟩
    · by_cases ha : a = []
      · subst ha
        rw [List.append_nil] at e1
        refine .inr ⟨[], q, ?_, hq, by rw [e2]; rfl⟩
        have := h1 []
        rw [List.append_nil, e1] at this
        exact this
      · exact .inl (h2 p a ha e1.symm)
    · exact .inr ⟨c, q, by rw [e1]; exact h1 c, hq, e2.symm⟩

theorem cut_end {L : List OpV} {st : Option (List UInt8)} (h : Cut L L.length st) : st = none := by
  rcases h with h | ⟨p, q, _, hq, h⟩
  · exact h
  · rw [List.drop_length] at h
    exact absurd (List.append_eq_nil_iff.1 h).2 hq
end Go.Proofs.Ythnkipbbeiadjaa
