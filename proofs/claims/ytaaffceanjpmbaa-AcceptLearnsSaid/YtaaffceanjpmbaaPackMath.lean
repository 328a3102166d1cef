/-
  THE NUMBER AT THE BEGINNING OF SOME BYTES, AS A PLAIN FUNCTION, and how it stands to the bytes that are written: no program, no condition.
-/
import Derived.Lib.Varint
import Derived.Lib.VarintMem
import Derived.Lib.VarintBits
import GoSem.Claim
namespace Go.Proofs.Ytaaffceanjpmbaa

/-- i bytes went ahead, their seven bits spell acc: the number and how many bytes it has in all; none: there is no number. -/
def numAt : Nat → Nat → List UInt8 → Option (Nat × Nat)
  | _, _, [] => none
  | i, acc, b :: r =>
    if i = 9 ∧ 1 < b.toNat then none
    else if 128 ≤ b.toNat then numAt (i + 1) (acc + b.toNat % 128 * 2 ^ (7 * i)) r
    else if b.toNat = 0 ∧ 0 < i then none
    else some (acc + b.toNat * 2 ^ (7 * i), i + 1)

def numRes : Option (Nat × Nat) → Nat × Nat
  | none => (0, 0)
  | some x => x

theorem numAt_more : ∀ (l r : List UInt8) (i acc : Nat) (x : Nat × Nat), numAt i acc l = some x → numAt i acc (l ++ r) = some x
  | [], _, _, _, _, h => by simp [numAt] at h
  | b :: t, r, i, acc, x, h => by
    simp only [numAt, List.cons_append] at h ⊢
    split at h
    · cases h
    · rename_i h1
      rw [if_neg h1]
      split at h
      · rename_i h2
        rw [if_pos h2]
        exact numAt_more t r _ _ _ h
      · rename_i h2
        rw [if_neg h2]
        exact h

theorem numAt_size : ∀ (l : List UInt8) (i acc : Nat) (x : Nat × Nat), numAt i acc l = some x → i < x.2 ∧ x.2 ≤ i + l.length
  | [], _, _, _, h => by simp [numAt] at h
  | b :: t, i, acc, x, h => by
    simp only [numAt] at h
    split at h
    · cases h
    · split at h
      · have := numAt_size t _ _ _ h
        simp only [List.length_cons]; omega
      · split at h
        · cases h
        · cases h
          simp only [List.length_cons]; omega

/-- The value that numAt reads stands in the bytes that it took: from place i on they are the number's own bytes, and it is small enough. -/
theorem numAt_bytes : ∀ (l : List UInt8) (i acc : Nat) (x : Nat × Nat), i ≤ 9 → numAt i acc l = some x →
    ∃ v, x.1 = acc + v * 2 ^ (7 * i) ∧ l.take (x.2 - i) = Lib.uvarint v ∧ (0 < i → 0 < v) ∧ v * 2 ^ (7 * i) < 2 ^ 64
  | [], _, _, _, _, h => by simp [numAt] at h
  | b :: t, i, acc, x, hi, h => by
    have hb : b.toNat < 256 := b.toNat_lt
    have hp : (2 : Nat) ^ (7 * (i + 1)) = 2 ^ (7 * i) * 128 := by rw [Nat.mul_add, Nat.pow_add]
    simp only [numAt] at h
    split at h
    · cases h
    · rename_i h9
      split at h
      · rename_i h128
        have hi9 : i < 9 := by
          rcases Nat.lt_or_ge i 9 with h' | h'
          · exact h'
          · exact absurd ⟨by omega, by omega⟩ h9
        obtain ⟨v, e1, e2, e3, e4⟩ := numAt_bytes t (i + 1) _ x (by omega) h
        have hsz := (numAt_size t _ _ _ h).1
        have hv := e3 (by omega)
        have hd : (v * 128 + b.toNat % 128) / 128 = v := by omega
        have hm : (v * 128 + b.toNat % 128) % 128 = b.toNat % 128 := by omega
        refine ⟨v * 128 + b.toNat % 128, ?_, ?_, fun _ => by omega, ?_⟩
        · rw [e1, hp, Nat.add_mul, Nat.add_assoc, Nat.mul_assoc, Nat.mul_comm 128, Nat.add_comm (b.toNat % 128 * _)]
        · rw [Lib.uvarint_big (by omega), hd, hm, ← e2, show x.2 - i = (x.2 - (i + 1)) + 1 by omega, List.take_succ_cons]
          congr 1
          apply UInt8.toNat_inj.1
          rw [Lib.toUInt8_toNat (by omega)]
          omega
        · rw [hp, ← Nat.mul_assoc, Nat.mul_right_comm] at e4
          have hlt : v * 128 + b.toNat % 128 < (v + 1) * 128 := by omega
          have hpow : (2 : Nat) ^ 64 = 2 ^ (7 * i) * 128 * 2 ^ (57 - 7 * i) := by
            rw [show (128 : Nat) = 2 ^ 7 by decide, ← Nat.pow_add, ← Nat.pow_add]
            congr 1
            omega
          have e5 : (v + 1) * 128 * 2 ^ (7 * i) ≤ 2 ^ 64 := by
            rw [hpow] at e4 ⊢
            have h6 : v * 128 * 2 ^ (7 * i) = 2 ^ (7 * i) * 128 * v := by ac_rfl
            have h7 : v < 2 ^ (57 - 7 * i) := Nat.lt_of_mul_lt_mul_left (a := 2 ^ (7 * i) * 128) (by rw [← h6]; exact e4)
            have h8 : (v + 1) * 128 * 2 ^ (7 * i) = 2 ^ (7 * i) * 128 * (v + 1) := by ac_rfl
            rw [h8]
            exact Nat.mul_le_mul_left _ h7
          exact Nat.lt_of_lt_of_le (Nat.mul_lt_mul_of_pos_right hlt (Nat.two_pow_pos _)) e5
      · rename_i h128
        split at h
        · cases h
        · rename_i h0
          cases h
          refine ⟨b.toNat, rfl, ?_, fun h => by omega, ?_⟩
          · rw [Lib.uvarint_small (by omega)]
            simp
          · by_cases hi9 : i = 9
            · subst hi9
              have : b.toNat ≤ 1 := by
                rcases Nat.lt_or_ge 1 b.toNat with h' | h'
                · exact absurd ⟨rfl, h'⟩ h9
                · exact h'
              have e63 : (2 : Nat) ^ (7 * 9) = 9223372036854775808 := by decide
              have e64 : (2 : Nat) ^ 64 = 18446744073709551616 := by decide
              rw [e63, e64]; omega
            · have hle : (2 : Nat) ^ (7 * i) ≤ 2 ^ (7 * 8) := Nat.pow_le_pow_right (by decide) (by omega)
              have e56 : (2 : Nat) ^ (7 * 8) = 72057594037927936 := by decide
              have e64 : (2 : Nat) ^ 64 = 18446744073709551616 := by decide
              have := Nat.mul_le_mul (show b.toNat ≤ 127 by omega) hle
              rw [e56] at this
              rw [e64]; omega

/-- What is written is read. -/
theorem numAt_uvarint_at : ∀ (k v i acc : Nat), v < 128 ^ (k + 1) → (0 < i → 0 < v) → i + k ≤ 9 → v * 2 ^ (7 * i) < 2 ^ 64 → ∀ r, numAt i acc (Lib.uvarint v ++ r) = some (acc + v * 2 ^ (7 * i), i + (Lib.uvarint v).length)
  | 0, v, i, acc, hk, h0, hi, h64, r => by
    have hv : v < 128 := by simpa using hk
    rw [Lib.uvarint_small hv]
    have ht : (v.toUInt8).toNat = v := Lib.toUInt8_toNat (by omega)
    have h9 : ¬ (i = 9 ∧ 1 < v) := by
      rintro ⟨rfl, h⟩
      have e63 : (2 : Nat) ^ (7 * 9) = 9223372036854775808 := by decide
      have e64 : (2 : Nat) ^ 64 = 18446744073709551616 := by decide
      rw [e63, e64] at h64; omega
    have hz : ¬ (v = 0 ∧ 0 < i) := fun ⟨h1, h2⟩ => by have := h0 h2; omega
    simp only [List.cons_append, List.nil_append, numAt, ht, List.length_singleton]
    rw [if_neg h9, if_neg (by omega), if_neg hz]
  | k + 1, v, i, acc, hk, h0, hi, h64, r => by
    by_cases hv : v < 128
    · exact numAt_uvarint_at 0 v i acc (by simpa using hv) h0 (by omega) h64 r
    · have hp : (2 : Nat) ^ (7 * (i + 1)) = 2 ^ (7 * i) * 128 := by rw [Nat.mul_add, Nat.pow_add]
      have ht : ((v % 128 + 128).toUInt8).toNat = v % 128 + 128 := Lib.toUInt8_toNat (by omega)
      rw [Lib.uvarint_big (by omega)]
      have h1 : v / 128 < 128 ^ (k + 1) := by rw [Nat.pow_succ] at hk; exact Nat.div_lt_of_lt_mul (by rw [Nat.mul_comm]; exact hk)
      have h2 : v / 128 * 2 ^ (7 * (i + 1)) < 2 ^ 64 := by
        refine Nat.lt_of_le_of_lt ?_ h64
        rw [hp, Nat.mul_comm (2 ^ (7 * i)), ← Nat.mul_assoc]
        exact Nat.mul_le_mul_right _ (by omega)
      have h := numAt_uvarint_at k (v / 128) (i + 1) (acc + v % 128 * 2 ^ (7 * i)) h1 (fun _ => by omega) (by omega) h2 r
      simp only [List.cons_append, numAt, ht, List.length_cons]
      rw [if_neg (by omega), if_pos (by omega), show (v % 128 + 128) % 128 = v % 128 by omega, h]
      congr 2
      · rw [hp, Nat.mul_comm (2 ^ (7 * i)) 128, ← Nat.mul_assoc, Nat.add_assoc, ← Nat.add_mul, show v % 128 + v / 128 * 128 = v by omega]
      · omega

theorem numAt_uvarint (v : Nat) (hv : v < 18446744073709551616) (r : List UInt8) : numAt 0 0 (Lib.uvarint v ++ r) = some (v, (Lib.uvarint v).length) := by
  have := numAt_uvarint_at 9 v 0 0 (Nat.lt_of_lt_of_le hv (by decide)) (fun h => absurd h (by omega)) (by omega) (by simpa using hv) r
  simpa using this

theorem numAt_zero (l : List UInt8) (v n : Nat) (h : numAt 0 0 l = some (v, n)) : l.take n = Lib.uvarint v ∧ v < 18446744073709551616 ∧ 0 < n ∧ n ≤ l.length := by
  obtain ⟨v', e1, e2, _, e4⟩ := numAt_bytes l 0 0 (v, n) (by omega) h
  have hs := numAt_size l 0 0 (v, n) h
  have e : v = v' := by simpa using e1
  subst e
  exact ⟨by simpa using e2, by simpa using e4, by omega, by simpa using hs.2⟩

/-- Cut off anywhere, what was written of a number is no number. -/
theorem numAt_cut (v : Nat) (hv : v < 18446744073709551616) (p q : List UInt8) (hq : q ≠ []) (h : p ++ q = Lib.uvarint v) : numAt 0 0 p = none := by
  cases hp : numAt 0 0 p with
  | none => rfl
  | some x =>
    have h1 := numAt_more p q 0 0 x hp
    have h2 := numAt_uvarint v hv []
    rw [List.append_nil, ← h, h1] at h2
    have h3 := numAt_size p 0 0 x hp
    have h4 : x = (v, (p ++ q).length) := Option.some.inj h2
    rw [h4] at h3
    have : 0 < q.length := List.length_pos_iff.2 hq
    simp only [List.length_append] at h3
    omega

/-- Bytes that all go on, and a zero byte behind them: no number. -/
theorem numAt_long : ∀ (l : List UInt8) (i acc : Nat), (∀ b ∈ l, 128 ≤ b.toNat) → (0 < i ∨ l ≠ []) → numAt i acc (l ++ [0]) = none
  | [], i, acc, _, h => by
    have hi : 0 < i := by rcases h with h | h; exact h; exact absurd rfl h
    simp [numAt, hi]
  | b :: t, i, acc, hb, _ => by
    have h1 := hb b (by simp)
    simp only [List.cons_append, numAt]
    by_cases h9 : i = 9 ∧ 1 < b.toNat
    · rw [if_pos h9]
    · rw [if_neg h9, if_pos h1]
      exact numAt_long t _ _ (fun x hx => hb x (by simp [hx])) (.inl (by omega))

/-- 'acc | c << 7i' as a sum. -/
theorem or_join (k acc c : Nat) (hk : k ≤ 9) (hacc : acc < 2 ^ (7 * k)) (hc : c < 128) (h9 : k = 9 → c ≤ 1) :
    bits .or .u64 (acc : Int) (IntKind.u64.wrap ((c : Int) * 2 ^ (7 * k))) = ((acc + c * 2 ^ (7 * k) : Nat) : Int) ∧ acc + c * 2 ^ (7 * k) < 2 ^ (7 * (k + 1)) ∧ acc + c * 2 ^ (7 * k) < 18446744073709551616 := by
  have hs : k = 0 ∨ k = 1 ∨ k = 2 ∨ k = 3 ∨ k = 4 ∨ k = 5 ∨ k = 6 ∨ k = 7 ∨ k = 8 ∨ k = 9 := by omega
  have hw : ∀ n : Int, IntKind.u64.wrap n = n % 18446744073709551616 := IntKind.wrap_u64
  rw [hw]
  rcases hs with rfl | rfl | rfl | rfl | rfl | rfl | rfl | rfl | rfl | rfl
  · have e : (2 : Nat) ^ (7 * 0) = 1 := by decide
    have e' : (2 : Int) ^ (7 * 0) = 1 := by decide
    have e2 : (2 : Nat) ^ (7 * (0 + 1)) = 128 := by decide
    rw [e] at hacc
    rw [e, e', e2]
    refine ⟨?_, by omega, by omega⟩
    rw [u64_orv0 _ _ (by omega) (by omega) (by omega) (by omega) (by omega)]
    omega
  · have e : (2 : Nat) ^ (7 * 1) = 128 := by decide
    have e' : (2 : Int) ^ (7 * 1) = 128 := by decide
    have e2 : (2 : Nat) ^ (7 * (1 + 1)) = 16384 := by decide
    rw [e] at hacc
    rw [e, e', e2]
    refine ⟨?_, by omega, by omega⟩
    rw [u64_orv7 _ _ (by omega) (by omega) (by omega) (by omega) (by omega)]
    omega
  · have e : (2 : Nat) ^ (7 * 2) = 16384 := by decide
    have e' : (2 : Int) ^ (7 * 2) = 16384 := by decide
    have e2 : (2 : Nat) ^ (7 * (2 + 1)) = 2097152 := by decide
    rw [e] at hacc
    rw [e, e', e2]
    refine ⟨?_, by omega, by omega⟩
    rw [u64_orv14 _ _ (by omega) (by omega) (by omega) (by omega) (by omega)]
    omega
  · have e : (2 : Nat) ^ (7 * 3) = 2097152 := by decide
    have e' : (2 : Int) ^ (7 * 3) = 2097152 := by decide
    have e2 : (2 : Nat) ^ (7 * (3 + 1)) = 268435456 := by decide
    rw [e] at hacc
    rw [e, e', e2]
    refine ⟨?_, by omega, by omega⟩
    rw [u64_orv21 _ _ (by omega) (by omega) (by omega) (by omega) (by omega)]
    omega
  · have e : (2 : Nat) ^ (7 * 4) = 268435456 := by decide
    have e' : (2 : Int) ^ (7 * 4) = 268435456 := by decide
    have e2 : (2 : Nat) ^ (7 * (4 + 1)) = 34359738368 := by decide
    rw [e] at hacc
    rw [e, e', e2]
    refine ⟨?_, by omega, by omega⟩
    rw [u64_orv28 _ _ (by omega) (by omega) (by omega) (by omega) (by omega)]
    omega
  · have e : (2 : Nat) ^ (7 * 5) = 34359738368 := by decide
    have e' : (2 : Int) ^ (7 * 5) = 34359738368 := by decide
    have e2 : (2 : Nat) ^ (7 * (5 + 1)) = 4398046511104 := by decide
    rw [e] at hacc
    rw [e, e', e2]
    refine ⟨?_, by omega, by omega⟩
    rw [u64_orv35 _ _ (by omega) (by omega) (by omega) (by omega) (by omega)]
    omega
  · have e : (2 : Nat) ^ (7 * 6) = 4398046511104 := by decide
    have e' : (2 : Int) ^ (7 * 6) = 4398046511104 := by decide
    have e2 : (2 : Nat) ^ (7 * (6 + 1)) = 562949953421312 := by decide
    rw [e] at hacc
    rw [e, e', e2]
    refine ⟨?_, by omega, by omega⟩
    rw [u64_orv42 _ _ (by omega) (by omega) (by omega) (by omega) (by omega)]
    omega
  · have e : (2 : Nat) ^ (7 * 7) = 562949953421312 := by decide
    have e' : (2 : Int) ^ (7 * 7) = 562949953421312 := by decide
    have e2 : (2 : Nat) ^ (7 * (7 + 1)) = 72057594037927936 := by decide
    rw [e] at hacc
    rw [e, e', e2]
    refine ⟨?_, by omega, by omega⟩
    rw [u64_orv49 _ _ (by omega) (by omega) (by omega) (by omega) (by omega)]
    omega
  · have e : (2 : Nat) ^ (7 * 8) = 72057594037927936 := by decide
    have e' : (2 : Int) ^ (7 * 8) = 72057594037927936 := by decide
    have e2 : (2 : Nat) ^ (7 * (8 + 1)) = 9223372036854775808 := by decide
    rw [e] at hacc
    rw [e, e', e2]
    refine ⟨?_, by omega, by omega⟩
    rw [u64_orv56 _ _ (by omega) (by omega) (by omega) (by omega) (by omega)]
    omega
  · have e : (2 : Nat) ^ (7 * 9) = 9223372036854775808 := by decide
    have e' : (2 : Int) ^ (7 * 9) = 9223372036854775808 := by decide
    have e2 : (2 : Nat) ^ (7 * (9 + 1)) = 1180591620717411303424 := by decide
    rw [e] at hacc
    rw [e, e', e2]
    have := h9 rfl
    refine ⟨?_, by omega, by omega⟩
    rw [u64_orv63 _ _ (by omega) (by omega) (by omega) (by omega) (by omega)]
    omega
end Go.Proofs.Ytaaffceanjpmbaa
