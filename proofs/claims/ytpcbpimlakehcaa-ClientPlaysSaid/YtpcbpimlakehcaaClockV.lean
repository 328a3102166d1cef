/-
  THE PROGRAM's CLOCK. Merged by gen/cat.sh.
-/
import Derived.Test.YtpcbpimlakehcaaPackBase
import Derived.Test.YtpcbpimlakehcaaItemC
import Derived.BigQuiet
import Derived.Laws.CopyOwn
import Derived.Deep.OwnRows
import Derived.Laws.OwnMore
import Derived.Deep.QuietTactic
import Derived.Deep.RegionHeld3
/-! ## ClockV -/
/-
  CLOCKS IN MEMORY: their block; New, has, Tick, At. No condition but that a clock shows less than 2^62.
-/
namespace Go.Proofs.Ytpcbpimlakehcaa
open Go.RowKit

/-- A row of so many numbers. -/
def rowF (len : Nat) (f : Nat → Nat) : List Value := (List.range len).map fun j => Value.int .i64 (f j : Nat)
/-- One of them turned. -/
def upF (f : Nat → Nat) (k v : Nat) : Nat → Nat := fun j => if j = k then v else f j
theorem rowF_len (len : Nat) (f : Nat → Nat) : (rowF len f).length = len := by simp [rowF]
theorem rowF_get {len : Nat} (f : Nat → Nat) {j : Nat} (h : j < len) : (rowF len f)[j]? = some (.int .i64 (f j : Nat)) := by simp [rowF, h]
theorem rowF_set (len : Nat) (f : Nat → Nat) (k v : Nat) : (rowF len f).set k (.int .i64 (v : Nat)) = rowF len (upF f k v) := by
  apply List.ext_getElem?
  intro i
  simp only [rowF, List.getElem?_set, List.length_map, List.length_range, List.getElem?_map, upF]
  by_cases h : k = i
  · subst h
    by_cases hk : k < len
    · simp [hk]
    · simp [hk]
  · by_cases hi : i < len
    · simp [List.getElem?_range hi, if_neg h, if_neg (Ne.symm h)]
    · simp [show len ≤ i by omega, if_neg h]
theorem rowF_zero (len : Nat) : rowF len (fun _ => 0) = List.replicate len (.int .i64 0) := by
  apply List.ext_getElem?
  intro i
  by_cases hi : i < len
  · simp [rowF, hi]
  · simp [rowF, show len ≤ i by omega]
theorem upF_same (f : Nat → Nat) (k v : Nat) : upF f k v k = v := by simp [upF]
theorem upF_other (f : Nat → Nat) {k v j : Nat} (h : j ≠ k) : upF f k v j = f j := by simp [upF, h]

theorem wrap_next {k len : Nat} (h : k < len) (hm : len ≤ maxLen) : wrap64 ((k : Int) + 1) = ((k + 1 : Nat) : Int) := by
  unfold maxLen at hm
  rw [IntWalk.wrap64_in _ (by omega)]
  omega

/-- The clocks' cells: how many, what each shows, how often each ticked since the last Round. -/
def ckCells (n : Nat) (f g : Nat → Nat) : Array Value := (Value.int .i64 n :: (rowF 9 f ++ rowF 9 g)).toArray
theorem ck_get (n : Nat) (f g : Nat → Nat) : (ckCells n f g)[0]? = some (.int .i64 n) ∧ (∀ j, j < 9 → (ckCells n f g)[1 + j]? = some (.int .i64 (f j : Nat))) ∧ (∀ j, j < 9 → (ckCells n f g)[10 + j]? = some (.int .i64 (g j : Nat))) := by
  refine ⟨rfl, fun j hj => ?_, fun j hj => ?_⟩
  · simp only [ckCells, List.getElem?_toArray]
    rw [Nat.add_comm 1 j, List.getElem?_cons_succ, List.getElem?_append_left (by rw [rowF_len]; exact hj), rowF_get f hj]
  · simp only [ckCells, List.getElem?_toArray]
    rw [show 10 + j = (9 + j) + 1 by omega, List.getElem?_cons_succ, List.getElem?_append_right (by rw [rowF_len]; omega), rowF_len, show 9 + j - 9 = j by omega, rowF_get g hj]
theorem ck_setF (n : Nat) (f g : Nat → Nat) {k : Nat} (hk : k < 9) (v : Nat) : (ckCells n f g).setIfInBounds (1 + k) (.int .i64 (v : Nat)) = ckCells n (upF f k v) g := by
  simp only [ckCells, List.setIfInBounds_toArray]
  rw [Nat.add_comm 1 k, List.set_cons_succ, List.set_append_left _ _ (by rw [rowF_len]; exact hk), rowF_set]
theorem ck_setG (n : Nat) (f g : Nat → Nat) {k : Nat} (_ : k < 9) (v : Nat) : (ckCells n f g).setIfInBounds (10 + k) (.int .i64 (v : Nat)) = ckCells n f (upF g k v) := by
  simp only [ckCells, List.setIfInBounds_toArray]
  rw [show 10 + k = (9 + k) + 1 by omega, List.set_cons_succ, List.set_append_right _ _ (by rw [rowF_len]; omega), rowF_len, show 9 + k - 9 = k by omega, rowF_set]

section
variable {w w' : World} {b n : Nat} {f g : Nat → Nat}
end

/-! ### Round -/
theorem cinfo_int : (Try.prog.info? 3).map (fun i => (i.zero, i.size, i.bytes)) = some (some (.int .i64 0), 1, 8) := by kernel_rfl
theorem zero9 : (Builtin.zeroCells (Value.int .i64 0).cells 9).toList = rowF 9 fun _ => 0 := by kernel_rfl
end Go.Proofs.Ytpcbpimlakehcaa

/-! ## ClockF -/
/-
  CLOCKS AS PLAIN DATA: which ticks and rounds may be, what they make; the program's calls told so; Fair. No condition but that lists are no longer than lists may be.
-/
namespace Go.Proofs.Ytpcbpimlakehcaa
open Go.RowKit

/-- What clocks show, and how often each ticked since the last Round. -/
structure CkS where
  f : Nat → Nat
  g : Nat → Nat
def CkS.zero : CkS := ⟨fun _ => 0, fun _ => 0⟩
def canT (n : Nat) (s : CkS) (k : Int) : Bool := decide (0 ≤ k ∧ k < (n : Int) ∧ s.g k.toNat ≤ 1)
def tickS (n : Nat) (s : CkS) (k : Int) : CkS := if canT n s k then ⟨upF s.f k.toNat (s.f k.toNat + 1), upF s.g k.toNat (s.g k.toNat + 1)⟩ else s
def canR (n : Nat) (s : CkS) : Bool := decide (¬ ∃ j, j < n ∧ s.g j = 0)
def roundS (n : Nat) (s : CkS) : CkS := if canR n s then ⟨s.f, fun _ => 0⟩ else s
def stepS (n : Nat) (s : CkS) (k : Int) : Option CkS := if canT n s k then some (tickS n s k) else if canR n s then (if canT n (roundS n s) k then some (tickS n (roundS n s) k) else none) else none
def fairS (n : Nat) : CkS → List Int → Bool
  | _, [] => true
  | s, k :: r => match stepS n s k with
    | none => false
    | some s' => fairS n s' r
/-- May such clocks tick in this order? -/
def fairV (n : Int) (L : List Int) : Bool := if 1 ≤ n ∧ n ≤ 9 then fairS n.toNat .zero L else false
/-- No clock shows more. -/
def CkS.upto (s : CkS) (m : Nat) : Prop := ∀ j, s.f j ≤ m
theorem upto_zero : CkS.zero.upto 0 := fun _ => Nat.le_refl _
theorem CkS.upto.mono {s : CkS} {m m' : Nat} (h : s.upto m) (hm : m ≤ m') : s.upto m' := fun j => Nat.le_trans (h j) hm
theorem CkS.upto.tick {n : Nat} {s : CkS} {m : Nat} (h : s.upto m) (k : Int) : (tickS n s k).upto (m + 1) := by
  intro j
  unfold tickS
  split
  · show upF _ _ _ j ≤ _
    unfold upF
    split
    · have := h k.toNat; omega
    · have := h j; omega
  · have := h j; omega
theorem CkS.upto.round {n : Nat} {s : CkS} {m : Nat} (h : s.upto m) : (roundS n s).upto m := by
  intro j
  unfold roundS
  split
  · exact h j
  · exact h j
theorem CkS.upto.step {n : Nat} {s s' : CkS} {m : Nat} (h : s.upto m) {k : Int} (hs : stepS n s k = some s') : s'.upto (m + 1) := by
  unfold stepS at hs
  split at hs
  · cases hs; exact h.tick k
  · split at hs
    · split at hs
      · cases hs; exact h.round.tick k
      · cases hs
    · cases hs
theorem fairS_step (n : Nat) (s : CkS) (L : List Int) (k : Nat) (hk : k < L.length) : fairS n s (L.drop k) = match stepS n s (L.getD k 0) with | none => false | some s' => fairS n s' (L.drop (k + 1)) := by
  rw [List.drop_eq_getElem_cons hk]
  simp only [fairS, List.getD_eq_getElem?_getD, List.getElem?_eq_getElem hk, Option.getD_some]

section
variable {w : World} {b n : Nat} {s : CkS}
end

end Go.Proofs.Ytpcbpimlakehcaa

/-! ## ClockT -/
/-
  WHAT THE PROGRAM TELLS OF A FEW CLOCKS. No condition.
-/
namespace Go.Proofs.Ytpcbpimlakehcaa
open Go.RowKit

theorem ints_lit (u : World) (L : List Int) (h : L.length ≤ maxLen) : Ints (u.alloc (.cells (intCells L).toArray 3)) (u.heap.size + 1) (.slice (some ⟨u.heap.size, 0, none⟩) L.length L.length) L := by
  refine ⟨_, _, rfl, Nat.le_refl _, h, fun e => (by cases e), fun _ => ⟨_, _, rfl, by omega, fun j hj => ?_⟩⟩
  have hb := heap_alloc_new u (.cells (intCells L).toArray 3)
  rw [cell_of_row _ _ _ _ _ _ hb]
  simp [intCells, hj]

def t1 : CkS := tickS 2 .zero 0
def t2 : CkS := tickS 2 t1 0
def t3 : CkS := tickS 2 t2 1
def t4 : CkS := roundS 2 t3
theorem t2_stay : tickS 2 t2 0 = t2 := rfl
theorem t2_round : roundS 2 t2 = t2 := rfl
theorem t1_le : t1.upto 1 := upto_zero.tick 0
theorem t2_le : t2.upto 2 := t1_le.tick 0
theorem t4_at : t4.f 0 = 2 ∧ t4.f 1 = 1 := ⟨rfl, rfl⟩

end Go.Proofs.Ytpcbpimlakehcaa

/-! ## ClockW -/
/-
  ROWS OF INTS THAT A LAW ITSELF APPENDS TO; what is left of a number. No condition.
-/
namespace Go.Proofs.Ytpcbpimlakehcaa
open Go.RowKit

theorem csrc {w : World} {B : Nat} {v : Value} {L : List Int} (h : Ints w B v L) : Src Try.prog 1 22 v L.length (intCells L) w := by
  obtain ⟨ao, cap, rfl, h1, h2, h3, h4⟩ := h
  by_cases hl : L = []
  · subst hl
    cases ao with
    | none => rw [h3 rfl]; exact Src.ofNil _ Try.underlying22 0
    | some a => exact Src.ofSlice _ Try.underlying22 a 0 cap [] rfl (by intro j u hj; simp at hj) (by intro u hu; cases hu)
  · obtain ⟨b, off, rfl, _, hc⟩ := h4 hl
    refine Src.ofSlice _ Try.underlying22 ⟨b, off, none⟩ L.length cap (intCells L) (by simp [intCells]) ?_ ?_
    · intro j u hu
      have hj : j < L.length := by have := (List.getElem?_eq_some_iff.1 hu).1; simpa [intCells] using this
      have e : (intCells L)[j]? = some (.int .i64 (L.getD j 0)) := by simp [intCells, hj]
      rw [e] at hu
      rw [Addr.add_lit, hc j hj]
      exact hu
    · intro u hu
      obtain ⟨_, _, rfl⟩ := List.mem_map.1 hu
      rfl
theorem csrc1 (w : World) (x : Int) : Src Try.prog 1 22 (.slice (some ⟨w.heap.size, 0, none⟩) 1 1) 1 (intCells [x]) (w.alloc (.cells #[.int .i64 x] 3)) := csrc (ints_lit w [x] (show 1 ≤ maxLen by decide))
theorem csrc5 (w : World) (x : Int) : Src Try.prog 1 22 (.slice (some ⟨w.heap.size, 0, none⟩) 5 5) 5 (intCells [x, x, x, x, x]) (w.alloc (.cells #[.int .i64 x, .int .i64 x, .int .i64 x, .int .i64 x, .int .i64 x] 3)) := csrc (ints_lit w [x, x, x, x, x] (show 5 ≤ maxLen by decide))
theorem cells_app (A B : List Int) : intCells A ++ intCells B = intCells (A ++ B) := by simp [intCells]

/-- What is left of a number by q, from nought on. -/
theorem left_of (z : Int) (q : Nat) (hq : 0 < q) (hq2 : q ≤ 1000) : ∃ t : Nat, t < q ∧ wrap64 ((IntKind.u64.wrap z).tmod (q : Int)) = (t : Int) := by
  have h0 : 0 ≤ IntKind.u64.wrap z := by rw [IntKind.wrap_u64]; omega
  have h1 := Int.tmod_nonneg (q : Int) h0
  have h2 := Int.tmod_lt_of_pos (IntKind.u64.wrap z) (show (0 : Int) < (q : Int) by omega)
  refine ⟨((IntKind.u64.wrap z).tmod (q : Int)).toNat, by omega, ?_⟩
  rw [IntWalk.wrap64_in _ (by omega)]
  omega
end Go.Proofs.Ytpcbpimlakehcaa
