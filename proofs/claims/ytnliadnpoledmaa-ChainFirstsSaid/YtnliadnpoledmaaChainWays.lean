/-
  A CHAIN's BLOCK; WHAT IS LEFT WITHOUT SOME, AND WITH ONE MORE, BY THE PROGRAM AND BY THE REFERENCE. Of chains that may be.
-/
import Derived.Test.YtnliadnpoledmaaChainS
import Derived.Test.YtnliadnpoledmaaChainU
import Derived.Test.YtnliadnpoledmaaChainT
import Derived.Test.YtnliadnpoledmaaChainR
namespace Go.Proofs.Ytnliadnpoledmaa
open Go.RowKit

/-- A chain stands in a block. -/
structure R1 (v : World) (b : Nat) (ex : Int) (vx : Value) (F : List Int) : Prop where
  c : ChB v b ex vx
  i : Ints v v.heap.size vx F
theorem R1.step {v v' : World} {b : Nat} {ex : Int} {vx : Value} {F : List Int} (t : R1 v b ex vx F) (hb : Below v.heap.size v v') : R1 v' b ex vx F := ⟨t.c.keep hb t.c.lt, (t.i.keep hb).mono hb.size⟩
theorem R1.fresh {w : World} {ex : Int} {vx : Value} {F : List Int} (h : Ints w w.heap.size vx F) : R1 (w.alloc (.cells #[.int .i64 ex, vx] 25)) w.heap.size ex vx F :=
  ⟨ChB.fresh w _ _ _, (h.keep ((Below.refl _ w).alloc (Nat.le_refl _) _)).mono (by simp)⟩
theorem below_alloc (w : World) (o : Obj) : Below w.heap.size w (w.alloc o) := (Below.refl _ w).alloc (Nat.le_refl _) _

theorem ints_step {v v' : World} {x : Value} {L : List Int} (h : Ints v v.heap.size x L) (hb : Below v.heap.size v v') : Ints v' v'.heap.size x L := (h.keep hb).mono hb.size
theorem below_step {w0 v v' : World} (h : Below w0.heap.size w0 v) (hb : Below v.heap.size v v') : Below w0.heap.size w0 v' := h.trans (hb.mono h.size)

theorem may_wf {ea : Int} {A : List Int} (h : ChainV.may ⟨ea, A⟩) : ∀ x ∈ A, Wf x := fun x hx => by
  have := h.2.2.2.2.1 x hx
  exact ⟨by omega, by omega⟩
theorem may_le {ea : Int} {A : List Int} (h : ChainV.may ⟨ea, A⟩) : A.length ≤ 5 := h.2.2.2.1
theorem may_wrap {ea : Int} {A : List Int} (h : ChainV.may ⟨ea, A⟩) : wrap64 (ea + 1) = ea + 1 := by
  have h1 := h.1
  have h2 := h.2.1
  simp only at h1 h2
  exact IntWalk.wrap64_in _ (by omega)

theorem withouts (ea : Int) (A l : List Int) (hm : ChainV.may ⟨ea, A⟩) (hl : l.length ≤ 100) (hlw : ∀ x ∈ l, Wf x) : ∃ (ex er : Int) (F : List Int), F.length ≤ 5 ∧
    ((er = 0 ∧ ex = ea + 1 ∧ F = leftL A l ∧ ChainV.may ⟨ea + 1, leftL A l⟩) ∨ (er = 1 ∧ ex = 0 ∧ F = [] ∧ ¬ ChainV.may ⟨ea + 1, leftL A l⟩)) ∧
    (∀ u va vl, Ints u u.heap.size va A → Ints u u.heap.size vl l → Calls Try.prog 12 #[.agg #[.int .i64 ea, va], vl] u fun e w' => ∃ a m c, e = .returned (.tuple #[.agg #[.int .i64 ex, .slice a m c], .int .i64 er]) ∧ Hid (Ints w' w'.heap.size (.slice a m c) F) ∧ Hid (Below u.heap.size u w')) ∧
    (∀ u va vl, Ints u u.heap.size va A → Ints u u.heap.size vl l → Calls Try.prog 25 #[.agg #[.int .i64 ea, va], vl] u fun e w' => ∃ a m c, e = .returned (.tuple #[.agg #[.int .i64 ex, .slice a m c], .int .i64 er]) ∧ Hid (Ints w' w'.heap.size (.slice a m c) F) ∧ Hid (Below u.heap.size u w')) := by
  have h5 := may_le hm
  have hlf := leftL_len A l
  have he := may_wrap hm
  have hAw := may_wf hm
  by_cases hE : ChainV.may ⟨ea + 1, leftL A l⟩
  · have hep := ((leftL_may hm).1 hE).1
    refine ⟨ea + 1, 0, leftL A l, by omega, .inl ⟨rfl, rfl, rfl, hE⟩, fun u va vl hva hvl => ?_, fun u va vl hva hvl => ?_⟩
    · refine (chwithout_r ea va A vl l u.heap.size u hva hvl (Nat.le_refl _) (by omega) hl hAw hlw he (.inl ⟨hE, rfl, rfl⟩)).mono fun e w' ⟨a, n, c, h1, h2, h3, h4⟩ => ?_
      obtain ⟨_, h6⟩ := h2 rfl
      exact ⟨a, n, c, h1, ints_own (L := leftL A l) h6 (Nat.le_refl _), h4⟩
    · exact (rhwithout_in ea va A vl l u.heap.size u hva hvl (Nat.le_refl _) (by omega) hl he hep (.inl ⟨hE, rfl, rfl⟩)).mono fun e w' ⟨a, n, c, h1, h2, h3, h4⟩ => ⟨a, n, c, h1, h2 rfl, h4⟩
  · refine ⟨0, 1, [], by simp, .inr ⟨rfl, rfl, rfl, hE⟩, fun u va vl hva hvl => ?_, fun u va vl hva hvl => ?_⟩
    · refine (chwithout_r ea va A vl l u.heap.size u hva hvl (Nat.le_refl _) (by omega) hl hAw hlw he (.inr ⟨hE, rfl, rfl⟩)).mono fun e w' ⟨a, n, c, h1, h2, h3, h4⟩ => ?_
      obtain ⟨rfl, rfl, rfl⟩ := h3 rfl
      exact ⟨_, _, _, h1, Ints.none _ _, h4⟩
    · by_cases hep : ea < 1073741824
      · refine (rhwithout_in ea va A vl l u.heap.size u hva hvl (Nat.le_refl _) (by omega) hl he hep (.inr ⟨hE, rfl, rfl⟩)).mono fun e w' ⟨a, n, c, h1, h2, h3, h4⟩ => ?_
        obtain ⟨rfl, rfl, rfl⟩ := h3 rfl
        exact ⟨_, _, _, h1, Ints.none _ _, h4⟩
      · exact (rhwithout_top ea va vl (by omega) u).mono fun e w' ⟨h1, h2⟩ => ⟨_, _, _, h1, Ints.none _ _, h2⟩

theorem withs (ea : Int) (A : List Int) (x : Int) (hm : ChainV.may ⟨ea, A⟩) : ∃ (ex er : Int) (F : List Int), F.length ≤ 6 ∧
    ((er = 0 ∧ ex = ea + 1 ∧ F = A ++ [x] ∧ ChainV.may ⟨ea + 1, A ++ [x]⟩) ∨ (er = 1 ∧ ex = 0 ∧ F = [] ∧ ¬ ChainV.may ⟨ea + 1, A ++ [x]⟩)) ∧
    (∀ u va, Ints u u.heap.size va A → Calls Try.prog 11 #[.agg #[.int .i64 ea, va], .int .i64 x] u fun e w' => ∃ a m c, e = .returned (.tuple #[.agg #[.int .i64 ex, .slice a m c], .int .i64 er]) ∧ Hid (Ints w' w'.heap.size (.slice a m c) F) ∧ Hid (Below u.heap.size u w')) ∧
    (∀ u va, Ints u u.heap.size va A → Calls Try.prog 26 #[.agg #[.int .i64 ea, va], .int .i64 x] u fun e w' => ∃ a m c, e = .returned (.tuple #[.agg #[.int .i64 ex, .slice a m c], .int .i64 er]) ∧ Hid (Ints w' w'.heap.size (.slice a m c) F) ∧ Hid (Below u.heap.size u w')) := by
  have h5 := may_le hm
  have he := may_wrap hm
  have h0 : 0 ≤ ea := hm.1
  by_cases hE : ChainV.may ⟨ea + 1, A ++ [x]⟩
  · have hep := (with_may hm).1 hE
    refine ⟨ea + 1, 0, A ++ [x], by simp; omega, .inl ⟨rfl, rfl, rfl, hE⟩, fun u va hva => ?_, fun u va hva => ?_⟩
    · refine (chwith_in ea va A x u.heap.size u hva (Nat.le_refl _) (by omega) he (.inl ⟨hE, rfl, rfl⟩)).mono fun e w' ⟨a, n, c, h1, h2, h3, h4⟩ => ?_
      obtain ⟨hn, h6⟩ := h2 rfl
      subst hn
      exact ⟨a, _, c, h1, ints_own (L := A ++ [x]) h6 (Nat.le_refl _), h4⟩
    · exact (rhwith_in ea va A x u.heap.size u hva (Nat.le_refl _) (by omega) h0 hep.1 hep.2.2.2.2 (.inl ⟨hE, rfl, rfl⟩)).mono fun e w' ⟨a, n, c, h1, h2, h3, h4⟩ => ⟨a, n, c, h1, h2 rfl, h4⟩
  · refine ⟨0, 1, [], by simp, .inr ⟨rfl, rfl, rfl, hE⟩, fun u va hva => ?_, fun u va hva => ?_⟩
    · refine (chwith_in ea va A x u.heap.size u hva (Nat.le_refl _) (by omega) he (.inr ⟨hE, rfl, rfl⟩)).mono fun e w' ⟨a, n, c, h1, h2, h3, h4⟩ => ?_
      obtain ⟨rfl, rfl, rfl⟩ := h3 rfl
      exact ⟨_, _, _, h1, Ints.none _ _, h4⟩
    · by_cases hep : 1073741824 ≤ ea ∨ (ea < 1073741824 ∧ x ∈ A)
      · exact (rhwith_no ea va A x u.heap.size u hva (Nat.le_refl _) (by omega) hep).mono fun e w' ⟨h1, h2⟩ => ⟨_, _, _, h1, Ints.none _ _, h2⟩
      · have h1 : ea < 1073741824 := by omega
        have h2 : x ∉ A := fun h => hep (.inr ⟨h1, h⟩)
        refine (rhwith_in ea va A x u.heap.size u hva (Nat.le_refl _) (by omega) h0 h1 h2 (.inr ⟨hE, rfl, rfl⟩)).mono fun e w' ⟨a, n, c, h1, h2, h3, h4⟩ => ?_
        obtain ⟨rfl, rfl, rfl⟩ := h3 rfl
        exact ⟨_, _, _, h1, Ints.none _ _, h4⟩
end Go.Proofs.Ytnliadnpoledmaa
