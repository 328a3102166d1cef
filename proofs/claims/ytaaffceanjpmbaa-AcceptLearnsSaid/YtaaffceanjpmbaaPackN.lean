/-
  WHAT A READER DOES: firstNum, isWrong, Num, Text, Yes, End behind any calls, each as a plain function of what is left. No condition but that lengths stay below 2^47.
-/
import Derived.Test.YtaaffceanjpmbaaPackR
import Derived.Test.YtaaffceanjpmbaaPackMath
namespace Go.Proofs.Ytaaffceanjpmbaa
open Go.RowKit

def rNum (most : Nat) : Option (List UInt8) → Nat × Option (List UInt8)
  | none => (0, none)
  | some l => match numAt 0 0 l with
    | none => (0, none)
    | some x => if x.1 ≤ most then (x.1, some (l.drop x.2)) else (0, none)

def rTextOf : Nat × Option (List UInt8) → List UInt8 × Option (List UInt8)
  | (_, none) => ([], none)
  | (n, some l) => if n ≤ l.length then (l.take n, some (l.drop n)) else ([], none)
def rText (most : Nat) (st : Option (List UInt8)) : List UInt8 × Option (List UInt8) := rTextOf (rNum most st)
def rYes (st : Option (List UInt8)) : Bool × Option (List UInt8) := (decide ((rNum 1 st).1 = 1), (rNum 1 st).2)
def rEnd : Option (List UInt8) → Int
  | none => 2
  | some [] => 0
  | some (_ :: _) => 9

theorem ret_fn {a b c d : Int} (h1 : a = c) (h2 : b = d) : Ending.returned (.tuple #[.int .u64 a, .int .i64 b]) = .returned (.tuple #[.int .u64 c, .int .i64 d]) := by rw [h1, h2]

set_option maxHeartbeats 1000000 in
theorem firstnum_nil (ao : Option Addr) (cap : Nat) (w : World) :
    Calls Try.prog 90 #[.slice ao 0 cap] w fun e w' => e = .returned (.tuple #[.int .u64 0, .int .i64 0]) ∧ w = w' := by
  go_enter Try.func90, Try.ntmps90
  go_wp2
  go_rounds 1
  go_returns
  exact ⟨rfl, rfl⟩

set_option maxHeartbeats 2000000 in
set_option maxRecDepth 100000 in
theorem firstnum_some (b off n cap : Nat) (l : List UInt8) (w : World) (hn : l.length = n) (hm : n ≤ 140737488355328) (hc : ∀ j, j < n → w.cell? ⟨b, off + j, none⟩ = some (.int .u8 (l.getD j 0).toNat)) :
    Calls Try.prog 90 #[.slice (some ⟨b, off, none⟩) n cap] w fun e w' => e = .returned (.tuple #[.int .u64 (numRes (numAt 0 0 l)).1, .int .i64 (numRes (numAt 0 0 l)).2]) ∧ w = w' := by
  have HC := Lib.hid hc
  have HN := Lib.hid hn
  clear hc hn
  obtain ⟨R1, hR1⟩ : ∃ R, R = (numRes (numAt 0 0 l)).1 := ⟨_, rfl⟩
  obtain ⟨R2, hR2⟩ : ∃ R, R = (numRes (numAt 0 0 l)).2 := ⟨_, rfl⟩
  rw [← hR1, ← hR2]
  have HR1 := Lib.hid hR1
  have HR2 := Lib.hid hR2
  clear hR1 hR2
  go_enter Try.func90, Try.ntmps90
  go_wp2
  go_loop [4, 9] (fun vx vi => ∃ k acc : Nat, vi = .int .i64 k ∧ vx = .int .u64 acc ∧ k ≤ 9 ∧ k ≤ n ∧ acc < 2 ^ (7 * k) ∧ numAt 0 0 l = numAt k acc (l.drop k))
    (fun _ vi => n - (intOf vi).toNat)
  case atStart => exact ⟨0, 0, rfl, rfl, by omega, by omega, by decide, rfl⟩
  case round =>
    obtain ⟨k, acc, rfl, rfl, hk9, hkn, hacc, hdec⟩ := hrel
    by_cases hk : k < n
    · have hcell := HC.out k hk
      have hdrop : l.drop k = l.getD k 0 :: l.drop (k + 1) := by
        have hk' : k < l.length := by rw [HN.out]; exact hk
        rw [List.drop_eq_getElem_cons hk']
        simp [List.getD, hk']
      rw [hdrop] at hdec
      generalize l.getD k 0 = c at hcell hdec
      have hc256 : c.toNat < 256 := c.toNat_lt
      clear hdrop
      simp only [numAt] at hdec
      obtain ⟨m, hmc⟩ : ∃ m, m = c.toNat := ⟨_, rfl⟩
      rw [← hmc] at hcell hdec hc256
      clear hmc
      by_cases h9 : k = 9 ∧ 1 < m
      · rw [if_pos h9] at hdec
        have HD := Lib.hid hdec
        obtain ⟨rfl, h1⟩ := h9
        clear hdec hacc
        go_wp2
        go_returns
        exact ⟨ret_fn (by rw [HR1.out, HD.out]; rfl) (by rw [HR2.out, HD.out]; rfl), rfl⟩
      · rw [if_neg h9] at hdec
        have h9' : k = 9 → m ≤ 1 := fun h => by
          rcases Nat.lt_or_ge 1 m with h' | h'
          · exact absurd ⟨h, h'⟩ h9
          · omega
        have hj := or_join k acc (m % 128) hk9 hacc (by omega) (fun h => by have := h9' h; omega)
        obtain ⟨J, hJ⟩ : ∃ J, J = acc + m % 128 * 2 ^ (7 * k) := ⟨_, rfl⟩
        rw [← hJ] at hj hdec
        have HO : Hid (bits .or .u64 (acc : Int) (IntKind.u64.wrap ((m : Int) % 128 * 2 ^ (k * 7))) = (J : Int)) := by
          have h := hj.1
          rw [Nat.mul_comm 7 k] at h
          exact h
        have HH := Lib.hid hj.2
        have HJ := Lib.hid hJ
        have HD := Lib.hid hdec
        have HA := Lib.hid hacc
        have H9 := Lib.hid h9'
        clear hj hdec hJ h9 hacc h9'
        rcases (show 128 ≤ m ∨ (m = 0 ∧ 0 < k) ∨ (m = 0 ∧ k = 0) ∨ (0 < m ∧ m < 128 ∧ k < 9) ∨ (0 < m ∧ m < 128 ∧ k = 9) by omega) with hA | ⟨rfl, hB⟩ | ⟨rfl, rfl⟩ | ⟨hD1, hD2, hD3⟩ | ⟨hE1, hE2, rfl⟩
        · have hk9' : k < 9 := by
            rcases (show k < 9 ∨ k = 9 by omega) with h | h
            · exact h
            · have := H9.out h; omega
          go_wp2
          go_round
          case rel => exact ⟨k + 1, J, by go_num, by rw [HO.out], by omega, by omega, HH.out.1, by rw [HD.out, if_pos hA]⟩
          case measure => simp [intOf]; omega
        · have HE : Hid (numAt 0 0 l = none) := by show _ = _; rw [HD.out, if_neg (by omega), if_pos ⟨rfl, hB⟩]
          go_wp2
          all_goals
            go_returns
            exact ⟨ret_fn (by rw [HR1.out, HE.out]; rfl) (by rw [HR2.out, HE.out]; rfl), rfl⟩
        · have ha : acc = 0 := by have h := HA.out; rw [Nat.mul_zero, Nat.pow_zero] at h; omega
          subst ha
          have hcell0 : w.cell? ⟨b, off, none⟩ = some (.int .u8 0) := hcell
          have HE : Hid (numAt 0 0 l = some (0, 1)) := by show _ = _; rw [HD.out, if_neg (by omega), if_neg (by omega)]
          go_wp2
          go_returns
          exact ⟨ret_fn (by rw [HR1.out, HE.out]; rfl) (by rw [HR2.out, HE.out]; rfl), rfl⟩
        · have HE : Hid (numAt 0 0 l = some (J, k + 1)) := by show _ = _; rw [HD.out, if_neg (by omega), if_neg (by omega), HJ.out, Nat.mod_eq_of_lt hD2]
          go_wp2
          go_returns
          exact ⟨ret_fn (by rw [HR1.out, HE.out]; exact HO.out) (by rw [HR2.out, HE.out]; rfl), rfl⟩
        · have h1 := H9.out rfl
          have hm1 : m = 1 := by omega
          subst hm1
          have HE : Hid (numAt 0 0 l = some (J, 9 + 1)) := by show _ = _; rw [HD.out, if_neg (by omega), if_neg (by omega), HJ.out]
          have HO' : Hid (bits .or .u64 (acc : Int) 9223372036854775808 = (J : Int)) := by
            show _ = _
            have h := HO.out
            have e : IntKind.u64.wrap (((1 : Nat) : Int) % 128 * 2 ^ (9 * 7)) = 9223372036854775808 := by decide
            rw [e] at h
            exact h
          go_wp2
          go_returns
          exact ⟨ret_fn (by rw [HR1.out, HE.out]; exact HO'.out) (by rw [HR2.out, HE.out]; rfl), rfl⟩
    · have hkn2 : k = n := by omega
      subst hkn2
      have HE : Hid (numAt 0 0 l = none) := by show _ = _; rw [hdec, List.drop_eq_nil_of_le (by rw [HN.out]; omega)]; rfl
      clear hdec
      go_wp2
      go_returns
      exact ⟨ret_fn (by rw [HR1.out, HE.out]; rfl) (by rw [HR2.out, HE.out]; rfl), rfl⟩
end Go.Proofs.Ytaaffceanjpmbaa
