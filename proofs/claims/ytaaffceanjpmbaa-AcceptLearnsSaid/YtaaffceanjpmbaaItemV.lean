/-
  A REQUEST AS PLAIN DATA, and which may be. No condition.
-/
import Derived.Test.YtaaffceanjpmbaaPackQ
namespace Go.Proofs.Ytaaffceanjpmbaa
open Go.RowKit

structure ReqV where
  client : Int
  seq : Int
  kind : Int
  id : Int
  mtch : Int
  data : ByteArray

def ReqV.val (q : ReqV) : Value := .agg #[.int .i64 q.client, .int .i64 q.seq, .int .i64 q.kind, .int .i64 q.id, .int .i64 q.mtch, .string q.data]

/-- The request may be. -/
def ReqV.may (q : ReqV) : Prop :=
  0 ≤ q.client ∧ q.client < 4 ∧ 1 ≤ q.seq ∧ q.seq ≤ 1073741824 ∧ 1 ≤ q.kind ∧ q.kind ≤ 6 ∧ 0 ≤ q.id ∧ q.id ≤ 31 ∧ q.data.size ≤ 64 ∧ 0 ≤ q.mtch ∧ q.mtch ≤ 100 ∧
  (q.data.size = 0 ∨ q.kind = 1 ∨ q.kind = 2) ∧ (q.kind = 2 ∨ q.kind = 3 ∨ (q.kind = 5 ∧ 1 ≤ q.mtch) ∨ (q.kind ≠ 5 ∧ q.mtch = 0))
instance (q : ReqV) : Decidable q.may := by unfold ReqV.may; infer_instance

theorem empty_test (s : ByteArray) (h : s.size = 0) : s.toList.isEmpty = true := by
  rw [ByteArray.toList_eq]
  have : s.data.toList.length = 0 := by rw [Array.length_toList]; exact h
  rw [List.eq_nil_of_length_eq_zero this]; rfl
theorem full_test (s : ByteArray) (h : s.size ≠ 0) : s.toList.isEmpty = false := by
  rw [ByteArray.toList_eq]
  have : s.data.toList.length ≠ 0 := by rw [Array.length_toList]; exact h
  cases hs : s.data.toList with
  | nil => rw [hs] at this; exact absurd rfl this
  | cons => rfl

theorem empty_eq (s : ByteArray) (h : s.size = 0) : s = ByteArray.mk #[] := by
  apply ByteArray.ext
  apply Array.eq_empty_of_size_eq_zero
  exact h

/-- Block b holds a request. -/
def ReqB (w : World) (b : Nat) (cl sq kd id mt : Int) (dt : ByteArray) : Prop :=
  ∃ e, w.heap[b]? = some (.cells #[.int .i64 cl, .int .i64 sq, .int .i64 kd, .int .i64 id, .int .i64 mt, .string dt] e (0, 0))

theorem ReqB.cells {w : World} {b : Nat} {cl sq kd id mt : Int} {dt : ByteArray} (h : ReqB w b cl sq kd id mt dt) :
    w.cell? ⟨b, 0, none⟩ = some (.int .i64 cl) ∧ w.cell? ⟨b, 1, none⟩ = some (.int .i64 sq) ∧ w.cell? ⟨b, 2, none⟩ = some (.int .i64 kd) ∧ w.cell? ⟨b, 3, none⟩ = some (.int .i64 id) ∧ w.cell? ⟨b, 4, none⟩ = some (.int .i64 mt) ∧ w.cell? ⟨b, 5, none⟩ = some (.string dt) := by
  obtain ⟨e, h⟩ := h
  refine ⟨?_, ?_, ?_, ?_, ?_, ?_⟩ <;> simp [World.cell?, h]
theorem ReqB.free {w : World} {b : Nat} {cl sq kd id mt : Int} {dt : ByteArray} (h : ReqB w b cl sq kd id mt dt) (o : Nat) : w.frozen? ⟨b, o, none⟩ = false := by
  obtain ⟨e, h⟩ := h
  simp [World.frozen?, h]
theorem ReqB.lt {w : World} {b : Nat} {cl sq kd id mt : Int} {dt : ByteArray} (h : ReqB w b cl sq kd id mt dt) : b < w.heap.size := by
  obtain ⟨_, h⟩ := h
  exact lt_of_block h
theorem ReqB.keep {w w' : World} {b B : Nat} {cl sq kd id mt : Int} {dt : ByteArray} (h : ReqB w b cl sq kd id mt dt) (hb : Below B w w') (hB : b < B) : ReqB w' b cl sq kd id mt dt := by
  obtain ⟨e, h⟩ := h
  exact ⟨e, (hb.block b hB).trans h⟩
theorem ReqB.fresh (w : World) (cl sq kd id mt : Int) (dt : ByteArray) (e : TypeId) : ReqB (w.alloc (.cells #[.int .i64 cl, .int .i64 sq, .int .i64 kd, .int .i64 id, .int .i64 mt, .string dt] e)) w.heap.size cl sq kd id mt dt :=
  ⟨e, heap_alloc_new w _⟩
end Go.Proofs.Ytaaffceanjpmbaa
