/-
  THE PROGRAM's MayChain AND PutChain. No condition but that the chain can be read, and lengths.
-/
import Derived.Test.YtkflkkdfklbfpaaItemCV
import Derived.Test.YtkflkkdfklbfpaaItemPut
namespace Go.Proofs.Ytkflkkdfklbfpaa
open Go.RowKit

/-- Block b holds a chain. -/
def ChB (w : World) (b : Nat) (ep : Int) (v : Value) : Prop := ∃ e, w.heap[b]? = some (.cells #[.int .i64 ep, v] e (0, 0))
theorem ChB.cells {w : World} {b : Nat} {ep : Int} {v : Value} (h : ChB w b ep v) : w.cell? ⟨b, 0, none⟩ = some (.int .i64 ep) ∧ w.cell? ⟨b, 1, none⟩ = some v := by
  obtain ⟨e, h⟩ := h
  exact ⟨cell_of_two0 h, cell_of_two1 h⟩
theorem ChB.free {w : World} {b : Nat} {ep : Int} {v : Value} (h : ChB w b ep v) (o : Nat) : w.frozen? ⟨b, o, none⟩ = false := by
  obtain ⟨e, h⟩ := h
  exact free_of_two h o
theorem ChB.lt {w : World} {b : Nat} {ep : Int} {v : Value} (h : ChB w b ep v) : b < w.heap.size := by
  obtain ⟨_, h⟩ := h
  exact lt_of_block h
theorem ChB.keep {w w' : World} {b B : Nat} {ep : Int} {v : Value} (h : ChB w b ep v) (hb : Below B w w') (hB : b < B) : ChB w' b ep v := by
  obtain ⟨e, h⟩ := h
  exact ⟨e, (hb.block b hB).trans h⟩
theorem ChB.fresh (w : World) (ep : Int) (v : Value) (e : TypeId) : ChB (w.alloc (.cells #[.int .i64 ep, v] e)) w.heap.size ep v := ⟨e, heap_alloc_new w _⟩

/-- The bytes of a row of small numbers. -/
def nodeBytes (L : List Nat) : List UInt8 := L.flatMap Lib.uvarint
def chainBytes (ep : Nat) (L : List Nat) : List UInt8 := Lib.uvarint ep ++ (Lib.uvarint L.length ++ nodeBytes L)

theorem nodeBytes_take (L : List Nat) (k : Nat) (h : k < L.length) : nodeBytes (L.take (k + 1)) = nodeBytes (L.take k) ++ Lib.uvarint (L.getD k 0) := by
  unfold nodeBytes
  rw [List.take_succ_eq_append_getElem h, List.flatMap_append]
  simp [List.getD, h]
theorem nodeBytes_len (L : List Nat) (h : ∀ x ∈ L, x ≤ 9223372036854775807) : (nodeBytes L).length ≤ 10 * L.length := by
  induction L with
  | nil => simp [nodeBytes]
  | cons x r ih =>
    have h1 := Lib.uvarint_length64 (show x < 18446744073709551616 by have := h x (by simp); omega)
    have h2 := ih (fun y hy => h y (List.mem_cons_of_mem _ hy))
    simp only [nodeBytes, List.flatMap_cons, List.length_append, List.length_cons] at h2 ⊢
    omega

end Go.Proofs.Ytkflkkdfklbfpaa
