/-
  THE PROGRAM's GetReq: the request that the bytes are, or none. No condition but lengths.
-/
import Derived.Test.YticokpaegadbbaaItemMayP
import Derived.Test.YticokpaegadbbaaItemMath
namespace Go.Proofs.Yticokpaegadbbaa
open Go.RowKit

theorem rNum_le (M : Nat) (st : Option (List UInt8)) : (rNum M st).1 ≤ M := by
  cases st with
  | none => simp [rNum]
  | some l =>
    simp only [rNum]
    split
    · simp
    · split
      · assumption
      · simp

theorem rNum_len2 (M : Nat) (st : Option (List UInt8)) (b : Nat) (hm : ∀ l, st = some l → l.length ≤ b) : ∀ l, (rNum M st).2 = some l → l.length ≤ b := by
  intro l hl
  cases st with
  | none => simp [rNum] at hl
  | some l0 =>
    simp only [rNum] at hl
    split at hl
    · cases hl
    · split at hl
      · simp only [Option.some.injEq] at hl
        subst hl
        have := hm l0 rfl
        simp; omega
      · cases hl

theorem rText_len2 (M : Nat) (st : Option (List UInt8)) (b : Nat) (hm : ∀ l, st = some l → l.length ≤ b) : (∀ l, (rText M st).2 = some l → l.length ≤ b) ∧ (rText M st).1.length ≤ b := by
  unfold rText
  have h1 := rNum_len2 M st b hm
  obtain ⟨v, s, hv⟩ : ∃ v s, rNum M st = (v, s) := ⟨_, _, rfl⟩
  rw [hv] at h1 ⊢
  cases s with
  | none => simp [rTextOf]
  | some l =>
    have := h1 l rfl
    simp only [rTextOf]
    split
    · simp; omega
    · simp

theorem size_Req : (Try.prog.info? 40).map (·.size) = some 6 := by kernel_rfl

/-- A request stored whole into a block that holds one. -/
theorem store_req {ops : Array Oper} {rest : List Oper} {o : Oper} {a : Act} {w : World} {Q : Exit → Act → World → Prop} (hgd : o.guard = none) (x y : Operand) (ho : o.op = .store 40 x y)
    (g : Nat) (hx : a.eval x = .pointer (some ⟨g, 0, none⟩)) (cl sq kd id mt : Int) (dt : ByteArray) (hy : a.eval y = .agg #[.int .i64 cl, .int .i64 sq, .int .i64 kd, .int .i64 id, .int .i64 mt, .string dt])
    {cl0 sq0 kd0 id0 mt0 : Int} {dt0 : ByteArray} (hg : ReqB w g cl0 sq0 kd0 id0 mt0 dt0)
    (h : ∀ w', ReqB w' g cl sq kd id mt dt → w.grownBy w' (some g) → wpList Try.prog ops Q rest (a.put o.dst undef) w') : wpList Try.prog ops Q (o :: rest) a w := by
  obtain ⟨e, hb⟩ := hg
  refine wpList_store_row hgd 40 x y ho g #[.int .i64 cl, .int .i64 sq, .int .i64 kd, .int .i64 id, .int .i64 mt, .string dt] hx hy e _ hb size_Req rfl (by simp [Value.oneCell']) (h _ ⟨e, ?_⟩ ?_)
  · exact setRow_heap w g _ _ e _ hb
  · exact ⟨rfl, rfl, rfl, by simp, fun k _ hk => setRow_other w g k _ (fun e => hk (by rw [e]))⟩

def progB : Bounds := ⟨3, 1073741824, 6, 31, 100, 64⟩
theorem progB_wide : progB.wide := by unfold Bounds.wide progB; decide

theorem rdrl_alloc {lo : Nat} {w : World} {h : Nat} {st : Option (List UInt8)} (hR : RdrL lo w h st) (o : Obj) : RdrL lo (w.alloc o) h st :=
  hR.below ((Below.refl _ _).alloc (Nat.le_refl _) _)

/-- The value of what was found. -/
def Got.val (g : Got) : Value := .agg #[.int .i64 g.cl, .int .i64 g.sq, .int .i64 g.kd, .int .i64 g.id, .int .i64 g.mt, .string ⟨g.s.toArray⟩]

end Go.Proofs.Yticokpaegadbbaa
