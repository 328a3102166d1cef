/-
  ROWS OF INTS THAT A LAW ITSELF APPENDS TO; what is left of a number. No condition.
-/
import Derived.Test.YtaaffceanjpmbaaClockT
namespace Go.Proofs.Ytaaffceanjpmbaa
open Go.RowKit

theorem csrc {w : World} {B : Nat} {v : Value} {L : List Int} (h : Ints w B v L) : Src Try.prog 1 22 v L.length (intCells L) w := by
  obtain ⟨ao, cap, rfl, h1, h2, h3, h4⟩ := h
  by_cases hl : L = []
  · subst hl
    cases ao with
    | none => rw [h3 rfl]; exact Src.ofNil _ Try.underlying22 0
    | some a => exact Src.ofSlice _ Try.underlying22 a 0 cap [] rfl (by intro j u hj; simp at hj) (by intro u hu; cases hu)
  · obtain ⟨b, off, rfl, _, hc⟩ := h4 hl
    refine Src.ofSlice _ Try.underlying22 ⟨b, off, none⟩ L.length cap (intCells L) (by simp [intCells]) ?_ ?_
    · intro j u hu
      have hj : j < L.length := by have := (List.getElem?_eq_some_iff.1 hu).1; simpa [intCells] using this
      have e : (intCells L)[j]? = some (.int .i64 (L.getD j 0)) := by simp [intCells, hj]
      rw [e] at hu
      rw [Addr.add_lit, hc j hj]
      exact hu
    · intro u hu
      obtain ⟨_, _, rfl⟩ := List.mem_map.1 hu
      rfl
theorem csrc1 (w : World) (x : Int) : Src Try.prog 1 22 (.slice (some ⟨w.heap.size, 0, none⟩) 1 1) 1 (intCells [x]) (w.alloc (.cells #[.int .i64 x] 3)) := csrc (ints_lit w [x] (show 1 ≤ maxLen by decide))
theorem csrc5 (w : World) (x : Int) : Src Try.prog 1 22 (.slice (some ⟨w.heap.size, 0, none⟩) 5 5) 5 (intCells [x, x, x, x, x]) (w.alloc (.cells #[.int .i64 x, .int .i64 x, .int .i64 x, .int .i64 x, .int .i64 x] 3)) := csrc (ints_lit w [x, x, x, x, x] (show 5 ≤ maxLen by decide))
theorem cells_app (A B : List Int) : intCells A ++ intCells B = intCells (A ++ B) := by simp [intCells]

/-- What is left of a number by q, from nought on. -/
theorem left_of (z : Int) (q : Nat) (hq : 0 < q) (hq2 : q ≤ 1000) : ∃ t : Nat, t < q ∧ wrap64 ((IntKind.u64.wrap z).tmod (q : Int)) = (t : Int) := by
  have h0 : 0 ≤ IntKind.u64.wrap z := by rw [IntKind.wrap_u64]; omega
  have h1 := Int.tmod_nonneg (q : Int) h0
  have h2 := Int.tmod_lt_of_pos (IntKind.u64.wrap z) (show (0 : Int) < (q : Int) by omega)
  refine ⟨((IntKind.u64.wrap z).tmod (q : Int)).toNat, by omega, ?_⟩
  rw [IntWalk.wrap64_in _ (by omega)]
  omega
end Go.Proofs.Ytaaffceanjpmbaa
