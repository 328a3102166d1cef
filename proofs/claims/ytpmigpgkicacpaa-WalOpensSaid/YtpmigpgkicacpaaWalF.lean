/-
  THE PROGRAM's first: the record of the frame that stands ahead. No condition but that lengths stay below 2^47.
-/
import Derived.Test.YtpmigpgkicacpaaWalW
namespace Go.Proofs.Ytpmigpgkicacpaa
open Go.RowKit

/-- A part of bytes that a slice holds. -/
theorem byt_part {w : World} {B b off cap : Nat} {l : List UInt8} (h : Byt w B (.slice (some ⟨b, off, none⟩) l.length cap) l) (i m : Nat) (him : i + m ≤ l.length) {n c : Nat} (hn : n = m) (hc : m ≤ c) (hcm : c ≤ maxLen) :
    Byt w B (.slice (some ⟨b, off + i, none⟩) n c) ((l.drop i).take m) := by
  subst hn
  obtain ⟨ao, cap', he, h1, h2, h3, h4⟩ := h
  have hl : ((l.drop i).take n).length = n := by rw [List.length_take, List.length_drop]; omega
  refine ⟨_, _, by rw [hl], by rw [hl]; exact hc, hcm, fun e => by simp at e, fun hne => ?_⟩
  have hpos : 0 < n := by
    rcases Nat.eq_zero_or_pos n with h | h
    · subst h; exact absurd (by simp) hne
    · exact h
  obtain ⟨b', off', he', hb, hcells⟩ := h4 (fun e => by subst e; simp at him; omega)
  simp only [Value.slice.injEq] at he
  obtain ⟨rfl, _, _⟩ := he
  simp only [Option.some.injEq, Addr.mk.injEq, and_true] at he'
  obtain ⟨rfl, rfl⟩ := he'
  refine ⟨_, _, rfl, hb, fun j hj => ?_⟩
  rw [hl] at hj
  rw [Nat.add_assoc, hcells (i + j) (by omega)]
  congr 3
  simp [List.getD, hj]

theorem run_slice_bytes (a : Option Addr) (n cap : Nat) (lo hi : Option Value) (u : World) : (Instr.sliceAt 22 (.slice a n cap) lo hi none).run Try.prog u = (Instr.slice 22 (.slice a n cap) lo hi none).run Try.prog u := run_sliceAt_slice u 22 _ _ _ _ Try.underlying22
theorem size_u8 (u : World) : (sizeOf (Try.prog.elem 22)).run Try.prog u = .ok 1 u := by kernel_rfl

/-- 'v[i:]', 'v[:m]', 'v[i:j]' of bytes that a slice holds: a slice again. -/
def Cuts (v : Value) (lo hi : Option Value) (v' : Value) : Prop := ∀ u : World, (Instr.sliceAt 22 v lo hi none).run Try.prog u = .ok v' u ∧ (Instr.slice 22 v lo hi none).run Try.prog u = .ok v' u

theorem byt_mid {w : World} {B : Nat} {a : Option Addr} {n cap : Nat} {l : List UInt8} (h : Byt w B (.slice a n cap) l) (i j : Nat) (x y : Int) (hx : x = i) (hy : y = j) (hij : i ≤ j) (hj : j ≤ l.length) :
    ∃ a', Cuts (.slice a n cap) (some (.int .i64 x)) (some (.int .i64 y)) (.slice a' (j - i) (cap - i)) ∧ Byt w B (.slice a' (j - i) (cap - i)) ((l.drop i).take (j - i)) := by
  subst hx hy
  obtain ⟨ao, cap', he, h1, h2, h3, h4⟩ := id h
  simp only [Value.slice.injEq] at he
  obtain ⟨rfl, rfl, rfl⟩ := he
  have hrun : ∀ u, (Instr.slice 22 (.slice a l.length cap) (some (.int .i64 (i : Int))) (some (.int .i64 (j : Int))) none).run Try.prog u = .ok (.slice (if cap = i then a else a.map (·.add (i * 1))) (j - i) (cap - i)) u := fun u => by
    rw [run_slice_lh u 22 a l.length cap Try.underlying22 .i64 .i64 i j (by omega) (by omega) (by omega), size_u8]
    simp [Result.andThen, sliced]
  refine ⟨if cap = i then a else a.map (·.add (i * 1)), fun u => ⟨(run_slice_bytes ..).trans (hrun u), hrun u⟩, ?_⟩
  by_cases hci : cap = i
  · rw [if_pos hci]
    have hl : (l.drop i).take (j - i) = [] := List.eq_nil_of_length_eq_zero (by rw [List.length_take, List.length_drop]; omega)
    rw [hl, show j - i = 0 by omega]
    exact ⟨_, _, rfl, by simp, by omega, fun e => by rw [h3 e]; omega, fun e => absurd rfl e⟩
  · rw [if_neg hci]
    by_cases hl : l = []
    · subst hl
      simp only [List.length_nil] at h1 hj
      obtain rfl : j = 0 := by omega
      obtain rfl : i = 0 := by omega
      refine ⟨a.map (·.add (0 * 1)), cap, by simp, by simp, by omega, fun e => h3 (by simpa using e), fun e => absurd (by simp) e⟩
    · obtain ⟨b, off, rfl, hb, hc⟩ := h4 hl
      have := byt_part h i (j - i) (by omega) (n := j - i) rfl (c := cap - i) (by omega) (by omega)
      rw [Option.map_some, Nat.mul_one, Addr.add_lit]
      exact this

theorem byt_from {w : World} {B : Nat} {a : Option Addr} {n cap : Nat} {l : List UInt8} (h : Byt w B (.slice a n cap) l) (i : Nat) (x : Int) (hx : x = i) (hi : i ≤ l.length) :
    ∃ a', Cuts (.slice a n cap) (some (.int .i64 x)) none (.slice a' (n - i) (cap - i)) ∧ Byt w B (.slice a' (n - i) (cap - i)) (l.drop i) := by
  subst hx
  obtain ⟨ao, cap', he, h1, h2, h3, h4⟩ := id h
  simp only [Value.slice.injEq] at he
  obtain ⟨rfl, rfl, rfl⟩ := he
  have hrun : ∀ u, (Instr.slice 22 (.slice a l.length cap) (some (.int .i64 (i : Int))) none none).run Try.prog u = .ok (.slice (if cap = i then a else a.map (·.add (i * 1))) (l.length - i) (cap - i)) u := fun u => by
    rw [run_slice_l u 22 a l.length cap Try.underlying22 .i64 i (by omega) (by omega), size_u8]
    simp [Result.andThen, sliced]
  refine ⟨if cap = i then a else a.map (·.add (i * 1)), fun u => ⟨(run_slice_bytes ..).trans (hrun u), hrun u⟩, ?_⟩
  by_cases hci : cap = i
  · rw [if_pos hci]
    have hl : l.drop i = [] := List.eq_nil_of_length_eq_zero (by rw [List.length_drop]; omega)
    rw [hl, show l.length - i = 0 by omega]
    exact ⟨_, _, rfl, by simp, by omega, fun e => by rw [h3 e]; omega, fun e => absurd rfl e⟩
  · rw [if_neg hci]
    by_cases hl : l = []
    · subst hl
      simp only [List.length_nil] at h1 hi
      obtain rfl : i = 0 := by omega
      refine ⟨a.map (·.add (0 * 1)), cap, by simp, by simp, by omega, fun e => h3 (by simpa using e), fun e => absurd (by simp) e⟩
    · obtain ⟨b, off, rfl, hb, hc⟩ := h4 hl
      have := byt_part h i (l.length - i) (by omega) (n := l.length - i) rfl (c := cap - i) (by omega) (by omega)
      rw [List.take_of_length_le (by rw [List.length_drop]; omega)] at this
      rw [Option.map_some, Nat.mul_one, Addr.add_lit]
      exact this

theorem byt_to {w : World} {B : Nat} {a : Option Addr} {n cap : Nat} {l : List UInt8} (h : Byt w B (.slice a n cap) l) (j : Nat) (y : Int) (hy : y = j) (hj : j ≤ l.length) :
    Cuts (.slice a n cap) none (some (.int .i64 y)) (.slice a j cap) ∧ Byt w B (.slice a j cap) (l.take j) := by
  subst hy
  obtain ⟨ao, cap', he, h1, h2, h3, h4⟩ := id h
  simp only [Value.slice.injEq] at he
  obtain ⟨rfl, rfl, rfl⟩ := he
  have hrun : ∀ u, (Instr.slice 22 (.slice a l.length cap) none (some (.int .i64 (j : Int))) none).run Try.prog u = .ok (.slice a j cap) u := fun u => by
    rw [run_slice_h u 22 a l.length cap Try.underlying22 .i64 j (by omega) (by omega), size_u8]
    simp [Result.andThen, sliced]
    intro _
    cases a with
    | none => rfl
    | some a => obtain ⟨b, off, sp⟩ := a; cases sp <;> rfl
  refine ⟨fun u => ⟨(run_slice_bytes ..).trans (hrun u), hrun u⟩, ?_⟩
  have hl : (l.take j).length = j := by rw [List.length_take]; omega
  refine ⟨a, cap, by rw [hl], by rw [hl]; omega, h2, h3, fun hne => ?_⟩
  obtain ⟨b, off, rfl, hb, hc⟩ := h4 (fun e => by subst e; simp at hne)
  refine ⟨b, off, rfl, hb, fun k hk => ?_⟩
  rw [hl] at hk
  rw [hc k (by omega)]
  congr 3
  simp [List.getD, hk]

theorem firstR_six' {b : List UInt8} (h : 6 ≤ b.length) : firstR b = if numOf (b.take 2) ≤ b.length - 6 ∧ 1 ≤ numOf (b.take 2) ∧ numOf (b.take 2) ≤ 4096 ∧ crcOf ((b.drop 6).take (numOf (b.take 2))) = numOf ((b.drop 2).take 4) then some ((b.drop 6).take (numOf (b.take 2))) else none := by
  obtain ⟨b0, b1, b2, b3, b4, b5, t, rfl⟩ := six_of h
  rw [firstR_six]
  rfl

set_option maxHeartbeats 400000 in
theorem first_short (a : Option Addr) (n c : Nat) (w : World) (h : n < 6) : Calls Try.prog 34 #[.slice a n c] w fun e w' => e = .returned (.tuple #[.slice none 0 0, .bool false]) ∧ w = w' := by
  go_enter Try.func34, Try.ntmps34
  go_wp2
  go_returns
  exact ⟨rfl, rfl⟩

/-- What first answers. -/
def FirstOf (B : Nat) (w0 : World) (o : Option (List UInt8)) (w : World) (e : Ending) (w' : World) : Prop :=
  Below w.heap.size w w' ∧ ((o = none ∧ e = .returned (.tuple #[.slice none 0 0, .bool false])) ∨ ∃ r u, o = some r ∧ e = .returned (.tuple #[u, .bool true]) ∧ Byt w0 B u r)

set_option maxHeartbeats 2000000 in
theorem first_long (a : Option Addr) (cap B : Nat) (l : List UInt8) (w : World) (hB : Byt w B (.slice a l.length cap) l) (hBw : B ≤ w.heap.size) (h6 : 6 ≤ l.length) (hlim : l.length ≤ 140737488355328) :
    Calls Try.prog 34 #[.slice a l.length cap] w (FirstOf B w (firstR l) w) := by
  obtain ⟨S, hS⟩ : ∃ S, S = numOf (l.take 2) := ⟨_, rfl⟩
  obtain ⟨C, hC⟩ : ∃ C, C = numOf ((l.drop 2).take 4) := ⟨_, rfl⟩
  have hSl : S < 65536 := by
    have := numOf_lt (l.take 2)
    rw [List.length_take, Nat.min_eq_left (by omega)] at this
    omega
  have hCl : C < 4294967296 := by
    have := numOf_lt ((l.drop 2).take 4)
    rw [List.length_take, List.length_drop, Nat.min_eq_left (by omega)] at this
    omega
  obtain ⟨k1, b1⟩ := byt_to hB 2 2 rfl (by omega)
  obtain ⟨a2, k2, b2⟩ := byt_mid hB 2 6 2 6 rfl rfl (by omega) (by omega)
  obtain ⟨a3, k3, b3⟩ := byt_from hB 6 6 rfl (by omega)
  obtain ⟨c2, hc2⟩ : ∃ c2, c2 = cap - 2 := ⟨_, rfl⟩
  obtain ⟨c3, hc3⟩ : ∃ c3, c3 = cap - 6 := ⟨_, rfl⟩
  rw [show 6 - 2 = 4 from rfl, ← hc2] at k2 b2
  rw [← hc3] at k3 b3
  have N1 : Hid (∀ q, Calls Try.prog 35 #[.slice a 2 cap] (w.drewN q) fun e w' => e = .returned (.int .u32 S) ∧ w' = w.drewN q) := fun q =>
    (num_any _ B _ (w.drewN q) (b1.keep ⟨rfl, rfl, rfl, Nat.le_refl _, fun _ _ => rfl⟩) (by rw [List.length_take]; omega)).mono fun e w' ⟨he, hw⟩ => ⟨by rw [he, hS], hw.symm⟩
  have N2 : Hid (∀ q, Calls Try.prog 35 #[.slice a2 4 c2] (w.drewN q) fun e w' => e = .returned (.int .u32 C) ∧ w' = w.drewN q) := fun q =>
    (num_any _ B _ (w.drewN q) (b2.keep ⟨rfl, rfl, rfl, Nat.le_refl _, fun _ _ => rfl⟩) (by rw [List.length_take]; omega)).mono fun e w' ⟨he, hw⟩ => ⟨by rw [he, hC], hw.symm⟩
  have HF := Lib.hid (firstR_six' h6)
  rw [← hS, ← hC] at HF
  have HR : Hid (S ≤ l.length - 6 → Cuts (.slice a3 (l.length - 6) c3) none (some (.int .i64 S)) (.slice a3 S c3) ∧ Byt w B (.slice a3 S c3) ((l.drop 6).take S)) := fun h => byt_to b3 S S rfl (by rw [List.length_drop]; exact h)
  have HL : Hid (S ≤ l.length - 6 → ((l.drop 6).take S).length = S) := fun h => by rw [List.length_take, List.length_drop]; exact Nat.min_eq_left h
  generalize (l.drop 6).take S = r at HF HR HL
  obtain ⟨n, hn⟩ : ∃ n, n = l.length := ⟨_, rfl⟩
  rw [← hn] at h6 hlim HF HR HL k1 k2 k3 ⊢
  have e1 := fun u => (k1 u).1
  have e2 := fun u => (k2 u).1
  have e3 := fun u => (k3 u).1
  have g1 := fun u => (k1 u).2
  have g2 := fun u => (k2 u).2
  have g3 := fun u => (k3 u).2
  have sS : IntKind.i64.wrap (S : Int) = S := IntWalk.i64_in _ (by omega)
  clear hB hS hC hn b1 b2 b3 k1 k2 k3 hc2 hc3
  have hd6 : decide ((n : Int) < 6) = false := decide_eq_false (by omega)
  obtain ⟨m, hm⟩ : ∃ m, m = n - 6 := ⟨_, rfl⟩
  rw [← hm] at HF HR HL e3 g3
  by_cases hD : m < S
  · have HG : Hid (firstR l = none) := by show _ = _; rw [HF.out, if_neg (by omega)]
    rw [HG.out]
    clear hm HF HR HL
    go_enter Try.func34, Try.ntmps34
    go_wp2_with fail
    go_quiet (first
      | (go_at_call_of 35 (Value.slice a 2 cap); exact Calls.quiet_of_same (N1.out _))
      | (go_at_call_of 35 (Value.slice a2 4 c2); exact Calls.quiet_of_same (N2.out _)))
    clear e1 e2 e3 g1 g2 g3
    go_wp2
    go_returns
    exact ⟨⟨rfl, rfl, rfl, Nat.le_refl _, fun _ _ => rfl⟩, .inl ⟨rfl, rfl⟩⟩
  · have hS : S ≤ m := by omega
    obtain ⟨k4, b4⟩ := HR.out hS
    have e4 := fun u => (k4 u).1
    have g4 := fun u => (k4 u).2
    have hl := HL.out hS
    by_cases hM : S < 1 ∨ 4096 < S
    · have HG : Hid (firstR l = none) := by show _ = _; rw [HF.out, if_neg (by omega)]
      rw [HG.out]
      have HM := Lib.hid hM
      clear hM hm HF HR HL k4 b4 hl HG
      go_enter Try.func34, Try.ntmps34
      go_wp2_with fail
      go_quiet (first
        | (go_at_call_of 35 (Value.slice a 2 cap); exact Calls.quiet_of_same (N1.out _))
        | (go_at_call_of 35 (Value.slice a2 4 c2); exact Calls.quiet_of_same (N2.out _)))
      clear e1 e2 e3 g1 g2 g3
      go_wp2_with (go_at_call 23; refine (mayrec_no _ _ _ _ HM.out).mono ?_; rintro e w' ⟨rfl, rfl⟩)
      go_returns
      exact ⟨⟨rfl, rfl, rfl, Nat.le_refl _, fun _ _ => rfl⟩, .inl ⟨rfl, rfl⟩⟩
    · have hS1 : 1 ≤ S := by omega
      have hS2 : S ≤ 4096 := by omega
      have HC : Hid (∀ q, Calls Try.prog 25 #[.slice a3 S c3] (w.drewN q) fun e w' => e = .returned (.int .u32 (crcOf r)) ∧ Below w.heap.size w w') := fun q => by
        refine (crc_any _ B r (w.drewN q) (b4.keep ⟨rfl, rfl, rfl, Nat.le_refl _, fun _ _ => rfl⟩) hBw (by omega)).mono fun e w' ⟨he, hb⟩ => ⟨he, ?_⟩
        exact (⟨rfl, rfl, rfl, Nat.le_refl _, fun _ _ => rfl⟩ : Below w.heap.size w (w.drewN q)).trans hb
      have HB4 := Lib.hid b4
      have hrl := crcOf_lt r
      obtain ⟨R, hR⟩ : ∃ R, R = crcOf r := ⟨_, rfl⟩
      rw [← hR] at HC HF hrl
      by_cases hE : R = C
      · have HG : Hid (firstR l = some r) := by show _ = _; rw [HF.out, if_pos (by omega)]
        rw [HG.out]
        have hq : ((R : Int) != (C : Int)) = false := by simp [hE]
        have HQ := Lib.hid hq
        clear hM hm HF HR HL k4 b4 hl HG hR hE hq
        go_enter Try.func34, Try.ntmps34
        go_wp2_with fail
        go_quiet (first
          | (go_at_call_of 35 (Value.slice a 2 cap); exact Calls.quiet_of_same (N1.out _))
          | (go_at_call_of 35 (Value.slice a2 4 c2); exact Calls.quiet_of_same (N2.out _)))
        clear e1 e2 e3 g1 g2 g3
        have hq := HQ.out
        go_wp2_with (first
          | (go_at_call 23; refine (mayrec_yes _ _ _ _ hS1 hS2).mono ?_; rintro e w' ⟨rfl, rfl⟩)
          | (go_at_call 25; refine (HC.out _).mono ?_; rintro e w' ⟨rfl, hb⟩; have H2 := Lib.hid hb; clear hb))
        go_returns
        exact ⟨H2.out, .inr ⟨r, _, rfl, rfl, HB4.out⟩⟩
      · have HG : Hid (firstR l = none) := by show _ = _; rw [HF.out, if_neg (by omega)]
        rw [HG.out]
        have hq : ((R : Int) != (C : Int)) = true := by simp; omega
        have HQ := Lib.hid hq
        clear hM hm HF HR HL k4 b4 hl HG hR hE hq
        go_enter Try.func34, Try.ntmps34
        go_wp2_with fail
        go_quiet (first
          | (go_at_call_of 35 (Value.slice a 2 cap); exact Calls.quiet_of_same (N1.out _))
          | (go_at_call_of 35 (Value.slice a2 4 c2); exact Calls.quiet_of_same (N2.out _)))
        clear e1 e2 e3 g1 g2 g3
        have hq := HQ.out
        go_wp2_with (first
          | (go_at_call 23; refine (mayrec_yes _ _ _ _ hS1 hS2).mono ?_; rintro e w' ⟨rfl, rfl⟩)
          | (go_at_call 25; refine (HC.out _).mono ?_; rintro e w' ⟨rfl, hb⟩; have H2 := Lib.hid hb; clear hb))
        go_returns
        exact ⟨H2.out, .inl ⟨rfl, rfl⟩⟩

theorem first_any (v : Value) (B : Nat) (l : List UInt8) (w : World) (hB : Byt w B v l) (hBw : B ≤ w.heap.size) (hlim : l.length ≤ 140737488355328) :
    Calls Try.prog 34 #[v] w (FirstOf B w (firstR l) w) := by
  obtain ⟨a, cap, rfl, _⟩ := id hB
  by_cases h6 : l.length < 6
  · refine (first_short a l.length cap w h6).mono ?_
    rintro e w' ⟨rfl, rfl⟩
    rw [firstR_short h6]
    exact ⟨Below.refl _ _, .inl ⟨rfl, rfl⟩⟩
  · exact first_long a cap B l w hB hBw (by omega) hlim
end Go.Proofs.Ytpmigpgkicacpaa
