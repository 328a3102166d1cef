/-
  HOW LONG IT MAY TAKE, HOW MUCH ROOM: which configurations may be, how many count, Rounds, Bytes (program's and reference's), by contract. No condition.
-/
import Derived.Test.YtpcbpimlakehcaaPackQ
import Derived.Test.YtpcbpimlakehcaaPackBase
namespace Go.Proofs.Ytpcbpimlakehcaa
open Go.RowKit

def mayK (a b c : Int) : Bool := decide (1 ≤ a ∧ a ≤ 5 ∧ 1 ≤ b ∧ b ≤ 4 ∧ 1 ≤ c ∧ c ≤ 100)
/-- How many of those that were asked count. -/
def cntK (n : Int) : Int := if n < 0 then 0 else if 100000 < n then 100000 else n
theorem cntK_in (n : Int) : 0 ≤ cntK n ∧ cntK n ≤ 100000 := by unfold cntK; (repeat' split) <;> omega
def rndK (a b c n : Int) : Int := if mayK a b c = true then 1000 + 600 * a + 20 * a * cntK n else 0
def bytK (a b c n : Int) : Int := if mayK a b c = true then 130 * cntK n else 0

set_option maxHeartbeats 400000 in
theorem bocnt_r (n : Int) (w : World) : Calls Try.prog 72 #[.int .i64 n] w fun e w' => e = .returned (.int .i64 (cntK n)) ∧ w = w' := by
  unfold cntK
  go_enter Try.func72, Try.ntmps72
  go_wp2
  all_goals
    go_returns
    refine ⟨congrArg (fun z => Ending.returned (.int .i64 z)) ?_, rfl⟩
    (repeat' split) <;> omega

/-- Up to k of the three are within their limits. -/
def inK (a b c : Int) (k : Nat) : Prop := (0 < k → 1 ≤ a ∧ a ≤ 5) ∧ (1 < k → 1 ≤ b ∧ b ≤ 4) ∧ (2 < k → 1 ≤ c ∧ c ≤ 100)
set_option maxRecDepth 100000 in
set_option maxHeartbeats 2000000 in
theorem boin_r (a b c : Int) (q : Nat) (w : World) (hq : w.heap[q]? = some (.cells #[.int .i64 a, .int .i64 5, .int .i64 b, .int .i64 4, .int .i64 c, .int .i64 100] 113 (0, 0))) (R : Bool) (hR : Hid (mayK a b c = R)) :
    Calls Try.prog 71 #[.slice (some ⟨q, 0, none⟩) 3 3] w fun e w' => e = .returned (.bool R) ∧ Below w.heap.size w w' := by
  have HQ := Lib.hid hq
  clear hq
  have HC : Hid (∀ u, Below w.heap.size w u → (u.cell? ⟨q, 0, none⟩ = some (.int .i64 a) ∧ u.cell? ⟨q, 1, none⟩ = some (.int .i64 5)) ∧ (u.cell? ⟨q, 2, none⟩ = some (.int .i64 b) ∧ u.cell? ⟨q, 3, none⟩ = some (.int .i64 4)) ∧ (u.cell? ⟨q, 4, none⟩ = some (.int .i64 c) ∧ u.cell? ⟨q, 5, none⟩ = some (.int .i64 100))) := fun u hu => by
    have h := (hu.block q (lt_of_block HQ.out)).trans HQ.out
    exact ⟨⟨by simp [World.cell?, h], by simp [World.cell?, h]⟩, ⟨by simp [World.cell?, h], by simp [World.cell?, h]⟩, ⟨by simp [World.cell?, h], by simp [World.cell?, h]⟩⟩
  have HB0 := Lib.hid (Below.refl w.heap.size w)
  clear HQ
  go_enter Try.func71, Try.ntmps71
  go_wp2
  go_loopw [7] (fun s7 wr => ∃ k : Nat, k ≤ 3 ∧ s7 = .int .i64 k ∧ Hid (inK a b c k) ∧ Hid (Below w.heap.size w wr)) (fun s7 _ => 3 - (intOf s7).toNat)
  case atStart => exact ⟨0, Nat.zero_le _, rfl, ⟨fun h => absurd h (by omega), fun h => absurd h (by omega), fun h => absurd h (by omega)⟩, HB0.out⟩
  case round =>
    clear HB0
    obtain ⟨k, hk, rfl, HI, HB⟩ := hrel
    rcases (show k = 0 ∨ k = 1 ∨ k = 2 ∨ k = 3 by omega) with rfl | rfl | rfl | rfl
    · have x0 := (HC.out _ HB.out).1.1
      have x1 := (HC.out _ HB.out).1.2
      have HW : Hid (∀ o, Below w.heap.size w (wr.alloc o)) := fun o => HB.out.alloc HB.out.size o
      by_cases hlo : a < 1
      · have HF : Hid (R = false) := (hR.out).symm.trans (decide_eq_false (by omega))
        clear hR
        go_wp2
        go_returns
        exact ⟨ret_bool HF.out.symm, HW.out _⟩
      · have hlo' : 1 ≤ a := by omega
        by_cases hhi : 5 < a
        · have HF : Hid (R = false) := (hR.out).symm.trans (decide_eq_false (by omega))
          clear hR
          go_wp2
          go_returns
          exact ⟨ret_bool HF.out.symm, HW.out _⟩
        · have HI2 : Hid (inK a b c 1) := by obtain ⟨i0, i1, i2⟩ := HI.out; exact ⟨fun _ => by omega, fun _ => by omega, fun _ => by omega⟩
          go_wp2
          go_roundw
          case rel => exact ⟨1, by omega, rfl, HI2.out, HW.out _⟩
          case measure => simp [intOf]
    · have x0 := (HC.out _ HB.out).2.1.1
      have x1 := (HC.out _ HB.out).2.1.2
      have HW : Hid (∀ o, Below w.heap.size w (wr.alloc o)) := fun o => HB.out.alloc HB.out.size o
      by_cases hlo : b < 1
      · have HF : Hid (R = false) := (hR.out).symm.trans (decide_eq_false (by omega))
        clear hR
        go_wp2
        go_returns
        exact ⟨ret_bool HF.out.symm, HW.out _⟩
      · have hlo' : 1 ≤ b := by omega
        by_cases hhi : 4 < b
        · have HF : Hid (R = false) := (hR.out).symm.trans (decide_eq_false (by omega))
          clear hR
          go_wp2
          go_returns
          exact ⟨ret_bool HF.out.symm, HW.out _⟩
        · have HI2 : Hid (inK a b c 2) := by obtain ⟨i0, i1, i2⟩ := HI.out; exact ⟨fun _ => by omega, fun _ => by omega, fun _ => by omega⟩
          go_wp2
          go_roundw
          case rel => exact ⟨2, by omega, rfl, HI2.out, HW.out _⟩
          case measure => simp [intOf]
    · have x0 := (HC.out _ HB.out).2.2.1
      have x1 := (HC.out _ HB.out).2.2.2
      have HW : Hid (∀ o, Below w.heap.size w (wr.alloc o)) := fun o => HB.out.alloc HB.out.size o
      by_cases hlo : c < 1
      · have HF : Hid (R = false) := (hR.out).symm.trans (decide_eq_false (by omega))
        clear hR
        go_wp2
        go_returns
        exact ⟨ret_bool HF.out.symm, HW.out _⟩
      · have hlo' : 1 ≤ c := by omega
        by_cases hhi : 100 < c
        · have HF : Hid (R = false) := (hR.out).symm.trans (decide_eq_false (by omega))
          clear hR
          go_wp2
          go_returns
          exact ⟨ret_bool HF.out.symm, HW.out _⟩
        · have HI2 : Hid (inK a b c 3) := by obtain ⟨i0, i1, i2⟩ := HI.out; exact ⟨fun _ => by omega, fun _ => by omega, fun _ => by omega⟩
          go_wp2
          go_roundw
          case rel => exact ⟨3, by omega, rfl, HI2.out, HW.out _⟩
          case measure => simp [intOf]
    · have HF : Hid (R = true) := (hR.out).symm.trans (decide_eq_true (by obtain ⟨i0, i1, i2⟩ := HI.out; omega))
      clear hR
      go_wp2
      go_returns
      exact ⟨ret_bool HF.out.symm, HB.out⟩

/-- A configuration's box at q. -/
def ConB (q : Nat) (a b c : Int) (u : World) : Prop := u.heap[q]? = some (.cells #[.int .i64 a, .int .i64 b, .int .i64 c] 81 (0, 0))
theorem ConB.on {q : Nat} {a b c : Int} {u u' : World} (h : ConB q a b c u) (hb : Below u.heap.size u u') : ConB q a b c u' := (hb.block _ (lt_of_block h)).trans h
theorem ConB.cells {q : Nat} {a b c : Int} {u : World} (h : ConB q a b c u) : u.cell? ⟨q, 0, none⟩ = some (.int .i64 a) ∧ u.cell? ⟨q, 1, none⟩ = some (.int .i64 b) ∧ u.cell? ⟨q, 2, none⟩ = some (.int .i64 c) :=
  ⟨by simp [World.cell?, show u.heap[q]? = _ from h], by simp [World.cell?, show u.heap[q]? = _ from h], by simp [World.cell?, show u.heap[q]? = _ from h]⟩
set_option maxRecDepth 100000 in
set_option maxHeartbeats 1000000 in
theorem bomay_r (a b c : Int) (w : World) (R : Bool) (hR : Hid (mayK a b c = R)) :
    Calls Try.prog 44 #[.agg #[.int .i64 a, .int .i64 b, .int .i64 c]] w fun e w' => e = .returned (.bool R) ∧ Below w.heap.size w w' := by
  have HN := Lib.hid (heap_alloc_new (w.alloc (.cells #[.int .i64 a, .int .i64 b, .int .i64 c] 81)) (.cells #[.int .i64 a, .int .i64 5, .int .i64 b, .int .i64 4, .int .i64 c, .int .i64 100] 113))
  rw [World.size_alloc] at HN
  have HI := Lib.hid (boin_r a b c _ _ HN.out R hR)
  have HB : Hid (Below w.heap.size w ((w.alloc (.cells #[.int .i64 a, .int .i64 b, .int .i64 c] 81)).alloc (.cells #[.int .i64 a, .int .i64 5, .int .i64 b, .int .i64 4, .int .i64 c, .int .i64 100] 113))) := ((Below.refl _ w).alloc (Nat.le_refl _) _).alloc (by simp) _
  clear hR HN
  go_enter Try.func44, Try.ntmps44
  go_wp2_with fail
  with_reducible refine HI.out.mono ?_
  rintro e w1 ⟨rfl, B1⟩
  have HB1 := Lib.hid (HB.out.trans (B1.mono HB.out.size))
  clear B1
  go_wp2
  go_returns
  exact ⟨rfl, HB1.out⟩
end Go.Proofs.Ytpcbpimlakehcaa
