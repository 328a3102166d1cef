/-
  THE PROGRAM's GetReq: the request that the bytes are, or none. No condition but lengths.
-/
import Derived.Test.YtaaffceanjpmbaaItemMayP
import Derived.Test.YtaaffceanjpmbaaItemMath
namespace Go.Proofs.Ytaaffceanjpmbaa
open Go.RowKit

theorem rNum_le (M : Nat) (st : Option (List UInt8)) : (rNum M st).1 ≤ M := by
  cases st with
  | none => simp [rNum]
  | some l =>
    simp only [rNum]
    split
    · simp
    · split
      · assumption
      · simp

theorem rNum_len2 (M : Nat) (st : Option (List UInt8)) (b : Nat) (hm : ∀ l, st = some l → l.length ≤ b) : ∀ l, (rNum M st).2 = some l → l.length ≤ b := by
  intro l hl
  cases st with
  | none => simp [rNum] at hl
  | some l0 =>
    simp only [rNum] at hl
    split at hl
    · cases hl
    · split at hl
      · simp only [Option.some.injEq] at hl
        subst hl
        have := hm l0 rfl
        simp; omega
      · cases hl

theorem rText_len2 (M : Nat) (st : Option (List UInt8)) (b : Nat) (hm : ∀ l, st = some l → l.length ≤ b) : (∀ l, (rText M st).2 = some l → l.length ≤ b) ∧ (rText M st).1.length ≤ b := by
  unfold rText
  have h1 := rNum_len2 M st b hm
  obtain ⟨v, s, hv⟩ : ∃ v s, rNum M st = (v, s) := ⟨_, _, rfl⟩
  rw [hv] at h1 ⊢
  cases s with
  | none => simp [rTextOf]
  | some l =>
    have := h1 l rfl
    simp only [rTextOf]
    split
    · simp; omega
    · simp

set_option maxHeartbeats 400000 in
theorem getint_any {lo : Nat} (h : Nat) (st : Option (List UInt8)) (most : Nat) (hM : most ≤ 9223372036854775807) (w : World) (hR : RdrL lo w h st) (hm : ∀ l, st = some l → l.length ≤ 140737488355328) :
    Calls Try.prog 87 #[.pointer (some ⟨h, 0, none⟩), .int .i64 most] w fun e w' => e = .returned (.int .i64 (rNum most st).1) ∧ RdrL lo w' h (rNum most st).2 ∧ w.grownBy w' (some h) := by
  have H := Lib.hid (rnum_any h st most w hR hm)
  obtain ⟨v, hv⟩ : ∃ v, v = (rNum most st).1 := ⟨_, rfl⟩
  have hle := rNum_le most st
  rw [← hv] at H hle ⊢
  clear hR hm hv
  go_enter Try.func87, Try.ntmps87
  go_wp2_with fail
  refine H.out.mono ?_
  rintro e w1 ⟨rfl, h1, h2⟩
  go_wp2
  go_returns
  exact ⟨rfl, h1, h2⟩

def progB : Bounds := ⟨3, 1073741824, 6, 31, 100, 64⟩
theorem progB_wide : progB.wide := by unfold Bounds.wide progB; decide

theorem rdrl_alloc {lo : Nat} {w : World} {h : Nat} {st : Option (List UInt8)} (hR : RdrL lo w h st) (o : Obj) : RdrL lo (w.alloc o) h st :=
  hR.below ((Below.refl _ _).alloc (Nat.le_refl _) _)

/-- The value of what was found. -/
def Got.val (g : Got) : Value := .agg #[.int .i64 g.cl, .int .i64 g.sq, .int .i64 g.kd, .int .i64 g.id, .int .i64 g.mt, .string ⟨g.s.toArray⟩]

end Go.Proofs.Ytaaffceanjpmbaa
