/-
  THE REFERENCE's PACK. Merged by gen/cat.sh.
-/
import Derived.Test.YtpcbpimlakehcaaPackQ
import Derived.Deep.RegionWith
import Derived.Deep.RegionHeld3
import Derived.Deep.QuietTactic
import Derived.BigQuiet
/-! ## PackRef -/
/-
  THE REFERENCE'S READER: wrong, Num, Text, Yes, End behind any calls, each as the same plain function as the program's own. No condition but lengths.
-/
namespace Go.Proofs.Ytpcbpimlakehcaa
open Go.RowKit

/-- Block h is the reference's reader: 'some l': it is right and l is left; 'none': it is wrong. -/
def RRdr (w : World) (h : Nat) : Option (List UInt8) → Prop
  | some l => ∃ e, w.heap[h]? = some (.cells #[.string ⟨l.toArray⟩, .bool false] e (0, 0))
  | none => ∃ e, w.heap[h]? = some (.cells #[.string ⟨#[]⟩, .bool true] e (0, 0))

theorem RRdr.lt {w : World} {h : Nat} {st : Option (List UInt8)} (hR : RRdr w h st) : h < w.heap.size := by
  cases st with
  | some l => obtain ⟨_, hb⟩ := hR; exact lt_of_block hb
  | none => obtain ⟨_, hb⟩ := hR; exact lt_of_block hb

theorem RRdr.keep {w w' : World} {h : Nat} {st : Option (List UInt8)} (hR : RRdr w h st) (hb : w'.heap[h]? = w.heap[h]?) : RRdr w' h st := by
  cases st with
  | some l => obtain ⟨e, h1⟩ := hR; exact ⟨e, hb.trans h1⟩
  | none => obtain ⟨e, h1⟩ := hR; exact ⟨e, hb.trans h1⟩

theorem below_grown {w w' : World} (h : Below w.heap.size w w') (row : Option Nat) : w.grownBy w' row :=
  ⟨h.os, h.tape, h.output, h.size, fun k hk _ => h.block k hk⟩

theorem take_eq (l : List UInt8) (J n : Nat) (h : numAt 0 0 l = some (J, n)) : l.take n = Lib.uvarint J := (numAt_zero l J n h).1
theorem take_ne (l : List UInt8) (J n : Nat) (hJ : J < 18446744073709551616) (h : numAt 0 0 l = none) : l.take n ≠ Lib.uvarint J := by
  intro e
  have h1 := numAt_uvarint J hJ (l.drop n)
  rw [← e, List.take_append_drop, h] at h1
  cases h1

theorem and127 (m : Nat) (h : m < 256) : bits .and .u64 (m : Int) 127 = ((m % 128 : Nat) : Int) := by
  have := u64_and_nat m 127 (by omega) (by decide)
  rw [nat_mask7] at this
  exact this

end Go.Proofs.Ytpcbpimlakehcaa

/-! ## PackRef2 -/
/-
  THE REFERENCE'S READER: Num when it is wrong, Text, Yes, End behind any calls, each as the same plain function as the program's own. No condition but lengths.
-/
namespace Go.Proofs.Ytpcbpimlakehcaa
open Go.RowKit

theorem rNum_len (M : Nat) (st : Option (List UInt8)) (b : Nat) (hm : ∀ l, st = some l → l.length ≤ b) : ∀ l, (rNum M st).2 = some l → l.length ≤ b := by
  intro l hl
  cases st with
  | none => simp [rNum] at hl
  | some l0 =>
    simp only [rNum] at hl
    split at hl
    · cases hl
    · split at hl
      · simp only [Option.some.injEq] at hl
        subst hl
        have := hm l0 rfl
        simp; omega
      · cases hl

end Go.Proofs.Ytpcbpimlakehcaa
