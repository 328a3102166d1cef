/-
  FRAMES AND RECORDS AS PLAIN LISTS OF BYTES: what a frame is, what is read of bytes, that it is read in one way, what is cut, what is turned. No program, no condition.
-/
import Derived.Test.YtpmigpgkicacpaaPackCMath
namespace Go.Proofs.Ytpmigpgkicacpaa

/-- A number's lowest bytes, the greatest first: the first k of so many. -/
def bes (v size k : Nat) : List UInt8 := (List.range k).map fun j => UInt8.ofNat (v / 256 ^ (size - 1 - j))
theorem bes_succ (v size k : Nat) : bes v size (k + 1) = bes v size k ++ [UInt8.ofNat (v / 256 ^ (size - 1 - k))] := by simp [bes, List.range_succ]
theorem bes_length (v size k : Nat) : (bes v size k).length = k := by simp [bes]

def headOf (l : List UInt8) : List UInt8 := bes l.length 2 2 ++ bes (crcOf l) 4 4
def frm (l : List UInt8) : List UInt8 := headOf l ++ l
def okR (l : List UInt8) : Prop := 1 ≤ l.length ∧ l.length ≤ 4096
def frs (L : List (List UInt8)) : List UInt8 := (L.map frm).flatten

theorem headOf_eq (l : List UInt8) : headOf l = [UInt8.ofNat (l.length / 256), UInt8.ofNat l.length, UInt8.ofNat (crcOf l / 16777216), UInt8.ofNat (crcOf l / 65536), UInt8.ofNat (crcOf l / 256), UInt8.ofNat (crcOf l)] := by
  simp [headOf, bes, List.range_succ]
theorem headOf_length (l : List UInt8) : (headOf l).length = 6 := by rw [headOf_eq]; rfl
theorem frm_length (l : List UInt8) : (frm l).length = 6 + l.length := by rw [frm, List.length_append, headOf_length]
theorem frs_nil : frs [] = [] := rfl
theorem frs_cons (r : List UInt8) (L : List (List UInt8)) : frs (r :: L) = frm r ++ frs L := by simp [frs]
theorem frs_append (L M : List (List UInt8)) : frs (L ++ M) = frs L ++ frs M := by simp [frs]
theorem frs_one (r : List UInt8) : frs [r] = frm r := by simp [frs]
theorem crcOf_lt (l : List UInt8) : crcOf l < 4294967296 := by unfold crcOf; omega

/-- The number that bytes make, the greatest first. -/
def numOf (l : List UInt8) : Nat := l.foldl (fun v c => v * 256 + c.toNat) 0
theorem numOf_snoc (l : List UInt8) (c : UInt8) : numOf (l ++ [c]) = numOf l * 256 + c.toNat := by simp [numOf]
theorem numOf_lt0 : ∀ (l : List UInt8) (v : Nat), l.foldl (fun v c => v * 256 + c.toNat) v < (v + 1) * 256 ^ l.length
  | [], v => by simp
  | c :: l, v => by
    have h := numOf_lt0 l (v * 256 + c.toNat)
    have hc := c.toNat_lt
    rw [List.foldl_cons, List.length_cons, Nat.pow_succ, Nat.mul_comm (256 ^ l.length), ← Nat.mul_assoc]
    refine Nat.lt_of_lt_of_le h (Nat.mul_le_mul_right _ (by omega))
theorem numOf_lt (l : List UInt8) : numOf l < 256 ^ l.length := by
  have := numOf_lt0 l 0
  rwa [Nat.zero_add, Nat.one_mul] at this

/-- The record of the frame that stands ahead. -/
def firstR : List UInt8 → Option (List UInt8)
  | b0 :: b1 :: b2 :: b3 :: b4 :: b5 :: t =>
    if numOf [b0, b1] ≤ t.length ∧ 1 ≤ numOf [b0, b1] ∧ numOf [b0, b1] ≤ 4096 ∧ crcOf (t.take (numOf [b0, b1])) = numOf [b2, b3, b4, b5] then some (t.take (numOf [b0, b1])) else none
  | _ => none

theorem six_of {b : List UInt8} (h : 6 ≤ b.length) : ∃ b0 b1 b2 b3 b4 b5 t, b = b0 :: b1 :: b2 :: b3 :: b4 :: b5 :: t := by
  match b, h with
  | b0 :: b1 :: b2 :: b3 :: b4 :: b5 :: t, _ => exact ⟨_, _, _, _, _, _, _, rfl⟩
theorem firstR_short {b : List UInt8} (h : b.length < 6) : firstR b = none := by
  match b, h with
  | [], _ => rfl
  | [_], _ => rfl
  | [_, _], _ => rfl
  | [_, _, _], _ => rfl
  | [_, _, _, _], _ => rfl
  | [_, _, _, _, _], _ => rfl

theorem num2 (b0 b1 : UInt8) : numOf [b0, b1] = b0.toNat * 256 + b1.toNat := by simp [numOf]
theorem num4 (b2 b3 b4 b5 : UInt8) : numOf [b2, b3, b4, b5] = ((b2.toNat * 256 + b3.toNat) * 256 + b4.toNat) * 256 + b5.toNat := by simp [numOf]

theorem firstR_six (b0 b1 b2 b3 b4 b5 : UInt8) (t : List UInt8) : firstR (b0 :: b1 :: b2 :: b3 :: b4 :: b5 :: t) =
    if numOf [b0, b1] ≤ t.length ∧ 1 ≤ numOf [b0, b1] ∧ numOf [b0, b1] ≤ 4096 ∧ crcOf (t.take (numOf [b0, b1])) = numOf [b2, b3, b4, b5] then some (t.take (numOf [b0, b1])) else none := rfl

theorem of_two {n : Nat} (h : n < 65536) : numOf [UInt8.ofNat (n / 256), UInt8.ofNat n] = n := by
  rw [num2, UInt8.toNat_ofNat', UInt8.toNat_ofNat']; omega
theorem of_four {n : Nat} (h : n < 4294967296) : numOf [UInt8.ofNat (n / 16777216), UInt8.ofNat (n / 65536), UInt8.ofNat (n / 256), UInt8.ofNat n] = n := by
  rw [num4, UInt8.toNat_ofNat', UInt8.toNat_ofNat', UInt8.toNat_ofNat', UInt8.toNat_ofNat']; omega
theorem two_of (b0 b1 : UInt8) : UInt8.ofNat (numOf [b0, b1] / 256) = b0 ∧ UInt8.ofNat (numOf [b0, b1]) = b1 := by
  rw [num2]
  have h0 := b0.toNat_lt
  have h1 := b1.toNat_lt
  constructor <;> (apply UInt8.toNat_inj.1; rw [UInt8.toNat_ofNat']; omega)
theorem four_of (b2 b3 b4 b5 : UInt8) : UInt8.ofNat (numOf [b2, b3, b4, b5] / 16777216) = b2 ∧ UInt8.ofNat (numOf [b2, b3, b4, b5] / 65536) = b3 ∧ UInt8.ofNat (numOf [b2, b3, b4, b5] / 256) = b4 ∧ UInt8.ofNat (numOf [b2, b3, b4, b5]) = b5 := by
  rw [num4]
  have h2 := b2.toNat_lt
  have h3 := b3.toNat_lt
  have h4 := b4.toNat_lt
  have h5 := b5.toNat_lt
  refine ⟨?_, ?_, ?_, ?_⟩ <;> (apply UInt8.toNat_inj.1; rw [UInt8.toNat_ofNat']; omega)

/-- A frame ahead is found. -/
theorem firstR_frm (r rest : List UInt8) (h : okR r) : firstR (frm r ++ rest) = some r := by
  obtain ⟨h1, h2⟩ := h
  have e : frm r ++ rest = UInt8.ofNat (r.length / 256) :: UInt8.ofNat r.length :: UInt8.ofNat (crcOf r / 16777216) :: UInt8.ofNat (crcOf r / 65536) :: UInt8.ofNat (crcOf r / 256) :: UInt8.ofNat (crcOf r) :: (r ++ rest) := by
    rw [frm, headOf_eq]; rfl
  rw [e, firstR_six, of_two (by omega), of_four (crcOf_lt r), show (r ++ rest).take r.length = r from List.take_left]
  exact if_pos ⟨by rw [List.length_append]; omega, h1, h2, rfl⟩
/-- What is found is a frame ahead. -/
theorem firstR_some {b r : List UInt8} (h : firstR b = some r) : okR r ∧ b = frm r ++ b.drop (6 + r.length) := by
  by_cases hl : b.length < 6
  · rw [firstR_short hl] at h; cases h
  obtain ⟨b0, b1, b2, b3, b4, b5, t, rfl⟩ := six_of (by omega : 6 ≤ b.length)
  rw [firstR_six] at h
  split at h
  · rename_i hc
    obtain ⟨c1, c2, c3, c4⟩ := hc
    obtain rfl := Option.some.inj h
    have hr : (t.take (numOf [b0, b1])).length = numOf [b0, b1] := by rw [List.length_take]; omega
    have hd : (b0 :: b1 :: b2 :: b3 :: b4 :: b5 :: t).drop (6 + numOf [b0, b1]) = t.drop (numOf [b0, b1]) := by
      generalize numOf [b0, b1] = q
      rw [Nat.add_comm 6 q]; rfl
    refine ⟨⟨by omega, by omega⟩, ?_⟩
    rw [hr, hd, frm, headOf_eq, hr, c4, (two_of b0 b1).1, (two_of b0 b1).2, (four_of b2 b3 b4 b5).1, (four_of b2 b3 b4 b5).2.1, (four_of b2 b3 b4 b5).2.2.1, (four_of b2 b3 b4 b5).2.2.2]
    simp
  · cases h

/-- What is read of bytes: the records, and the place behind them. -/
structure Rds (b : List UInt8) (L : List (List UInt8)) (n : Nat) : Prop where
  ok : ∀ r ∈ L, okR r
  split : ∃ rest, b = frs L ++ rest ∧ firstR rest = none
  len : n = (frs L).length

theorem rds_ahead : ∀ (L M : List (List UInt8)) (p q : List UInt8), (∀ r ∈ L, okR r) → (∀ r ∈ M, okR r) → frs L ++ p = frs M ++ q → firstR q = none → ∃ N, M = L ++ N
  | [], M, _, _, _, _, _, _ => ⟨M, rfl⟩
  | r :: L, [], p, q, hL, _, h, hq => by
    rw [frs_cons, List.append_assoc, frs_nil, List.nil_append] at h
    rw [← h, firstR_frm r _ (hL r (by simp))] at hq
    cases hq
  | r :: L, m :: M, p, q, hL, hM, h, hq => by
    rw [frs_cons, frs_cons, List.append_assoc, List.append_assoc] at h
    have h1 := firstR_frm r (frs L ++ p) (hL r (by simp))
    rw [h, firstR_frm m _ (hM m (by simp))] at h1
    obtain rfl := Option.some.inj h1
    obtain ⟨N, rfl⟩ := rds_ahead L M p q (fun x hx => hL x (by simp [hx])) (fun x hx => hM x (by simp [hx])) (List.append_cancel_left h) hq
    exact ⟨N, rfl⟩
theorem Rds.unique {b : List UInt8} {L M : List (List UInt8)} {n m : Nat} (h : Rds b L n) (k : Rds b M m) : L = M ∧ n = m := by
  obtain ⟨p, hp, hp0⟩ := h.split
  obtain ⟨q, hq, hq0⟩ := k.split
  obtain ⟨N, rfl⟩ := rds_ahead L M p q h.ok k.ok (hp.symm.trans hq) hq0
  obtain ⟨N', e⟩ := rds_ahead _ L q p k.ok h.ok (hq.symm.trans hp) hp0
  have : N = [] := by
    have := congrArg List.length e
    simp only [List.length_append] at this
    exact List.eq_nil_of_length_eq_zero (by omega)
  subst this
  rw [List.append_nil] at k ⊢
  exact ⟨rfl, h.len.trans k.len.symm⟩
/-- Frames, and behind them what is none. -/
theorem Rds.of {L : List (List UInt8)} {rest : List UInt8} (h : ∀ r ∈ L, okR r) (h0 : firstR rest = none) : Rds (frs L ++ rest) L (frs L).length := ⟨h, ⟨rest, rfl, h0⟩, rfl⟩
/-- What stands ahead is read. -/
theorem Rds.ahead {L M : List (List UInt8)} {rest : List UInt8} {n : Nat} (h : ∀ r ∈ L, okR r) (k : Rds (frs L ++ rest) M n) : ∃ N, M = L ++ N := by
  obtain ⟨q, hq, hq0⟩ := k.split
  exact rds_ahead L M rest q h k.ok hq hq0

/-- A frame that is cut off is none. -/
theorem firstR_cut (r : List UInt8) (h : okR r) (k : Nat) (hk : k < (frm r).length) : firstR ((frm r).take k) = none := by
  obtain ⟨h1, h2⟩ := h
  rw [frm_length] at hk
  by_cases h6 : k < 6
  · exact firstR_short (by rw [List.length_take]; omega)
  obtain ⟨j, rfl⟩ : ∃ j, k = j + 6 := ⟨k - 6, by omega⟩
  have e : (frm r).take (j + 6) = UInt8.ofNat (r.length / 256) :: UInt8.ofNat r.length :: UInt8.ofNat (crcOf r / 16777216) :: UInt8.ofNat (crcOf r / 65536) :: UInt8.ofNat (crcOf r / 256) :: UInt8.ofNat (crcOf r) :: r.take j := by
    rw [frm, headOf_eq]; rfl
  rw [e, firstR_six, of_two (by omega), if_neg (by rw [List.length_take]; omega)]

/-- Frames cut off anywhere: a beginning of them, and what is none. -/
theorem frs_cut : ∀ (L : List (List UInt8)) (k : Nat), (∀ r ∈ L, okR r) → ∃ j rest, j ≤ L.length ∧ (frs L).take k = frs (L.take j) ++ rest ∧ firstR rest = none ∧ (∀ i, i ≤ L.length → ((frs (L.take i)).length ≤ k ↔ i ≤ j))
  | [], k, _ => ⟨0, [], Nat.le_refl _, by simp [frs_nil], rfl, fun i hi => by simp at hi; subst hi; simp [frs_nil]⟩
  | r :: L, k, h => by
    have hr := h r (by simp)
    by_cases hk : k < (frm r).length
    · refine ⟨0, (frm r).take k, Nat.zero_le _, ?_, firstR_cut r hr k hk, fun i hi => ?_⟩
      · rw [frs_cons, List.take_append_of_le_length (by omega)]; rfl
      · cases i with
        | zero => simp [frs_nil]
        | succ i =>
          rw [List.take_succ_cons, frs_cons, List.length_append]
          omega
    · obtain ⟨j, rest, hj, e, h0, hi⟩ := frs_cut L (k - (frm r).length) (fun x hx => h x (by simp [hx]))
      refine ⟨j + 1, rest, by simp; omega, ?_, h0, fun i hil => ?_⟩
      · rw [frs_cons, List.take_append, List.take_of_length_le (by omega), e, List.take_succ_cons, frs_cons, List.append_assoc]
      · cases i with
        | zero => simp [frs_nil]
        | succ i =>
          have := hi i (by simpa using hil)
          rw [List.take_succ_cons, frs_cons, List.length_append]
          omega

/-- Seven bytes that are no frame. -/
theorem firstR_zeros (b2 b3 b4 b5 : UInt8) (t : List UInt8) : firstR (0 :: 0 :: b2 :: b3 :: b4 :: b5 :: t) = none := by
  rw [firstR_six, if_neg (by rw [num2]; simp)]

/-- A frame with a byte turned behind its length is none. -/
theorem firstR_turned (r rest : List UInt8) (hr : okR r) (i : Nat) (h2 : 2 ≤ i) (hi : i < (frm r).length) (y : UInt8) (hy : y ≠ (frm r).getD i 0) : firstR ((frm r).set i y ++ rest) = none := by
  obtain ⟨hr1, hr2⟩ := hr
  rw [frm_length] at hi
  have e : frm r = UInt8.ofNat (r.length / 256) :: UInt8.ofNat r.length :: UInt8.ofNat (crcOf r / 16777216) :: UInt8.ofNat (crcOf r / 65536) :: UInt8.ofNat (crcOf r / 256) :: UInt8.ofNat (crcOf r) :: r := by
    rw [frm, headOf_eq]; rfl
  rw [e] at hy ⊢
  have q4 := of_four (crcOf_lt r)
  have q2 := of_two (show r.length < 65536 by omega)
  generalize UInt8.ofNat (crcOf r / 16777216) = c0 at hy q4 ⊢
  generalize UInt8.ofNat (crcOf r / 65536) = c1 at hy q4 ⊢
  generalize UInt8.ofNat (crcOf r / 256) = c2 at hy q4 ⊢
  generalize UInt8.ofNat (crcOf r) = c3 at hy q4 ⊢
  generalize UInt8.ofNat (r.length / 256) = l0 at hy q2 ⊢
  generalize UInt8.ofNat r.length = l1 at hy q2 ⊢
  have hn : ∀ a b : UInt8, a ≠ b → a.toNat ≠ b.toNat := fun a b h h' => h (UInt8.toNat_inj.1 h')
  rw [num4] at q4
  match i, h2 with
  | 2, _ =>
    have := hn y c0 (by simpa using hy)
    have := y.toNat_lt; have := c0.toNat_lt; have := c1.toNat_lt; have := c2.toNat_lt; have := c3.toNat_lt
    simp only [List.set_cons_succ, List.set_cons_zero, List.cons_append]
    rw [firstR_six, q2, List.take_left, num4, if_neg (by omega)]
  | 3, _ =>
    have := hn y c1 (by simpa using hy)
    have := y.toNat_lt; have := c0.toNat_lt; have := c1.toNat_lt; have := c2.toNat_lt; have := c3.toNat_lt
    simp only [List.set_cons_succ, List.set_cons_zero, List.cons_append]
    rw [firstR_six, q2, List.take_left, num4, if_neg (by omega)]
  | 4, _ =>
    have := hn y c2 (by simpa using hy)
    have := y.toNat_lt; have := c0.toNat_lt; have := c1.toNat_lt; have := c2.toNat_lt; have := c3.toNat_lt
    simp only [List.set_cons_succ, List.set_cons_zero, List.cons_append]
    rw [firstR_six, q2, List.take_left, num4, if_neg (by omega)]
  | 5, _ =>
    have := hn y c3 (by simpa using hy)
    have := y.toNat_lt; have := c0.toNat_lt; have := c1.toNat_lt; have := c2.toNat_lt; have := c3.toNat_lt
    simp only [List.set_cons_succ, List.set_cons_zero, List.cons_append]
    rw [firstR_six, q2, List.take_left, num4, if_neg (by omega)]
  | j + 6, _ =>
    have hj : j < r.length := by omega
    simp only [List.set_cons_succ, List.cons_append]
    rw [firstR_six, q2, num4, q4, List.take_append_of_le_length (by rw [List.length_set]; omega), List.take_of_length_le (by rw [List.length_set]; omega)]
    refine if_neg fun hc => ?_
    have h := hc.2.2.2
    have e1 : r = r.take j ++ r.getD j 0 :: r.drop (j + 1) := by
      have : r.getD j 0 = r[j] := by simp [List.getD, hj]
      rw [this, ← List.drop_eq_getElem_cons hj, List.take_append_drop]
    have e2 : r.set j y = r.take j ++ y :: r.drop (j + 1) := by
      rw [List.set_eq_take_append_cons_drop, if_pos hj]
    rw [e2] at h
    conv at h => rhs; rw [e1]
    have := crcOf_turned _ _ _ _ h
    exact hy (by rw [this]; simp [List.getD])
end Go.Proofs.Ytpmigpgkicacpaa
