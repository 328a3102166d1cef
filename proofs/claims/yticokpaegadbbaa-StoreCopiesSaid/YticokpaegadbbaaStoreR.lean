/-
  FOR THE LAWS ON A STORE THAT ASK NO BYTES: requests of a slice, what is refused. No condition.
-/
import Derived.Test.YticokpaegadbbaaStoreT
import Derived.Test.YticokpaegadbbaaChartArgs
namespace Go.Proofs.Yticokpaegadbbaa
open Go.RowKit

/-- The cells of a request in a slice. -/
def ReqCells (u : World) (b o : Nat) (q : ReqV) : Prop :=
  u.cell? ⟨b, o, none⟩ = some (.int .i64 q.client) ∧ u.cell? ⟨b, o + 1, none⟩ = some (.int .i64 q.seq) ∧ u.cell? ⟨b, o + 2, none⟩ = some (.int .i64 q.kind) ∧ u.cell? ⟨b, o + 3, none⟩ = some (.int .i64 q.id) ∧ u.cell? ⟨b, o + 4, none⟩ = some (.int .i64 q.mtch) ∧ u.cell? ⟨b, o + 5, none⟩ = some (.string q.data)
/-- Where the requests lie, in every world that goes on from w. -/
def ReqsAt (w : World) (ao : Option Addr) (L : List ReqV) : Prop := ∀ i (h : i < L.length), ∃ b off, ao = some ⟨b, off, none⟩ ∧ b < w.heap.size ∧ ∀ u, Below w.heap.size w u → ReqCells u b (off + i * 6) L[i]
theorem reqs_at {w : World} {ao : Option Addr} {n cap : Nat} {L : List ReqV} (h : Reqs w w.heap.size (.slice ao n cap) L) : ReqsAt w ao L ∧ n = L.length ∧ L.length ≤ maxLen ∧ ∀ q ∈ L, q.data.size ≤ maxLen := by
  obtain ⟨ao', cap', he, hm, hs, hc⟩ := h
  simp only [Value.slice.injEq] at he
  obtain ⟨rfl, rfl, rfl⟩ := he
  refine ⟨fun i hi => ?_, rfl, hm, hs⟩
  obtain ⟨b, off, rfl, hb, hc⟩ := hc (by intro e; rw [e] at hi; simp at hi)
  refine ⟨b, off, rfl, hb, fun u hu => ?_⟩
  have h := hc i hi
  exact ⟨(hu.cell (p := ⟨b, off + i * 6, none⟩) hb).trans h.1, (hu.cell (p := ⟨b, off + i * 6 + 1, none⟩) hb).trans h.2.1, (hu.cell (p := ⟨b, off + i * 6 + 2, none⟩) hb).trans h.2.2.1, (hu.cell (p := ⟨b, off + i * 6 + 3, none⟩) hb).trans h.2.2.2.1,
    (hu.cell (p := ⟨b, off + i * 6 + 4, none⟩) hb).trans h.2.2.2.2.1, (hu.cell (p := ⟨b, off + i * 6 + 5, none⟩) hb).trans h.2.2.2.2.2⟩

theorem reqs_on {w u : World} {v : Value} {L : List ReqV} (h : Reqs w w.heap.size v L) (hu : Below w.heap.size w u) : Reqs u u.heap.size v L := by
  obtain ⟨ao, cap, rfl, hm, hs, hc⟩ := h
  refine ⟨ao, cap, rfl, hm, hs, fun hl => ?_⟩
  obtain ⟨b, off, rfl, hb, hc⟩ := hc hl
  refine ⟨b, off, rfl, Nat.lt_of_lt_of_le hb hu.size, fun i hi => ?_⟩
  have h := hc i hi
  exact ⟨(hu.cell (p := ⟨b, off + i * 6, none⟩) hb).trans h.1, (hu.cell (p := ⟨b, off + i * 6 + 1, none⟩) hb).trans h.2.1, (hu.cell (p := ⟨b, off + i * 6 + 2, none⟩) hb).trans h.2.2.1, (hu.cell (p := ⟨b, off + i * 6 + 3, none⟩) hb).trans h.2.2.2.1,
    (hu.cell (p := ⟨b, off + i * 6 + 4, none⟩) hb).trans h.2.2.2.2.1, (hu.cell (p := ⟨b, off + i * 6 + 5, none⟩) hb).trans h.2.2.2.2.2⟩

/-- What is refused leaves the store as it was. -/
theorem putA_refused (s : StoV) (q : ReqV) (h : (putA s q).err ≠ 0) : putA s q = ⟨s, 0, 0, ⟨#[]⟩, (putA s q).err⟩ := by
  by_cases hp : q.puts
  · by_cases ho : q.seq ≤ (s.cl q.client.toNat).seq
    · rw [putA_old s q hp ho]
    · rw [putA_done s q hp ho] at h; exact absurd rfl h
  · rw [putA_bad s q hp]
theorem putA_err (s : StoV) (q : ReqV) (h : (putA s q).err = 0) : q.puts ∧ ¬ q.seq ≤ (s.cl q.client.toNat).seq := by
  by_cases hp : q.puts
  · by_cases ho : q.seq ≤ (s.cl q.client.toNat).seq
    · rw [putA_old s q hp ho] at h; cases h
    · exact ⟨hp, ho⟩
  · rw [putA_bad s q hp] at h; cases h

/-- A reply that no client was told, and its twin. -/
theorem same_nil (c n : Int) (d : ByteArray) (v1 v2 : Value) (h1 : Nil0 v1) (h2 : Nil0 v2) (u : World) : Calls Try.prog 16 #[.agg #[.int .i64 c, .int .i64 n, .string d, v1], .agg #[.int .i64 c, .int .i64 n, .string d, v2]] u fun e w' => e = .returned (.bool true) ∧ Below u.heap.size u w' :=
  refsamereply_any c n c n d d v1 v2 [] [] _ u (h1.ints u u.heap.size) (h2.ints u u.heap.size) (Nat.le_refl _) (by decide) true (show _ = _ by simp)
theorem same_nil0 (c n : Int) (d : ByteArray) (v1 v2 : Value) (h1 : Nil0 v1) (h2 : Nil0 v2) (u : World) : Calls Try.prog 16 #[.agg #[.int .i64 c, .int .i64 n, .string d, v1], .agg #[.int .i64 c, .int .i64 n, .string d, v2]] u fun e w' => e = .returned (.bool true) ∧ Below u.heap.size u w' := same_nil c n d v1 v2 h1 h2 u
theorem putA_quota (s : StoV) (q : ReqV) : (putA s q).s.quota = s.quota := by
  by_cases hp : q.puts
  · by_cases ho : q.seq ≤ (s.cl q.client.toNat).seq
    · rw [putA_old s q hp ho]
    · rw [putA_done s q hp ho]; rfl
  · rw [putA_bad s q hp]
end Go.Proofs.Yticokpaegadbbaa
