/-
  A CHAIN AS PLAIN DATA: a slice of ints as a list; which chains may be. No condition.
-/
import Derived.Test.YtejnphfjlphpiaaItemA
namespace Go.Proofs.Ytejnphfjlphpiaa
open Go.RowKit

/-- The slice value v holds the ints L, in a block below B. -/
def Ints (w : World) (B : Nat) (v : Value) (L : List Int) : Prop :=
  ∃ ao cap, v = .slice ao L.length cap ∧ L.length ≤ cap ∧ cap ≤ maxLen ∧ (ao = none → cap = 0) ∧
    (L ≠ [] → ∃ b off, ao = some ⟨b, off, none⟩ ∧ b < B ∧ ∀ j, j < L.length → w.cell? ⟨b, off + j, none⟩ = some (.int .i64 (L.getD j 0)))

theorem Ints.keep {w w' : World} {B : Nat} {v : Value} {L : List Int} (h : Ints w B v L) (hb : Below B w w') : Ints w' B v L := by
  obtain ⟨ao, cap, rfl, h1, h2, h3, h4⟩ := h
  refine ⟨ao, cap, rfl, h1, h2, h3, fun hl => ?_⟩
  obtain ⟨b, off, rfl, hbB, hc⟩ := h4 hl
  exact ⟨b, off, rfl, hbB, fun j hj => (hb.cell (p := ⟨b, off + j, none⟩) hbB).trans (hc j hj)⟩
theorem Ints.mono {w : World} {B B' : Nat} {v : Value} {L : List Int} (h : Ints w B v L) (hB : B ≤ B') : Ints w B' v L := by
  obtain ⟨ao, cap, rfl, h1, h2, h3, h4⟩ := h
  refine ⟨ao, cap, rfl, h1, h2, h3, fun hl => ?_⟩
  obtain ⟨b, off, rfl, hbB, hc⟩ := h4 hl
  exact ⟨b, off, rfl, by omega, hc⟩
theorem Ints.none (w : World) (B : Nat) : Ints w B (.slice none 0 0) [] := ⟨_, _, rfl, Nat.le_refl _, Nat.zero_le _, fun _ => rfl, fun h => absurd rfl h⟩

def intCells (L : List Int) : List Value := L.map fun n => .int .i64 n

theorem ints_own {w : World} {base B : Nat} {v : Value} {n : Nat} {L : List Int} (h : w.ownsRow base 3 1 v n (intCells L)) (hB : w.heap.size ≤ B) : Ints w B v L := by
  have hn : L.length = n := by have := h.1; simp [intCells] at this; omega
  subst hn
  rcases h.2 with ⟨rfl, h0⟩ | ⟨g, cap, cur, rfl, hg, hh, hle, hmax, hsz, htake⟩
  · have : L = [] := List.eq_nil_of_length_eq_zero (by simpa using h0)
    subst this
    exact Ints.none _ _
  · refine ⟨some ⟨g, 0, Option.none⟩, cap, rfl, hle, hmax, fun h => (by cases h), fun _ => ⟨g, 0, rfl, by have := lt_of_block hh; omega, fun j hj => ?_⟩⟩
    have hx : (intCells L)[j]? = some (.int .i64 (L.getD j 0)) := by simp [intCells, hj]
    have := h.cells (g := g) rfl j _ hx
    rwa [Addr.add_lit] at this

def nodesOk (L : List Int) : Prop := (∀ x ∈ L, 0 ≤ x ∧ x ≤ 4) ∧ L.Nodup
instance (L : List Int) : Decidable (nodesOk L) := by unfold nodesOk; infer_instance

theorem nodesOk_nil : nodesOk [] := ⟨by simp, List.nodup_nil⟩
theorem nodesOk_snoc (T : List Int) (x : Int) : nodesOk (T ++ [x]) ↔ nodesOk T ∧ 0 ≤ x ∧ x ≤ 4 ∧ x ∉ T := by
  unfold nodesOk
  rw [List.nodup_append]
  simp only [List.mem_append, List.mem_singleton]
  constructor
  · rintro ⟨h1, h2, _, h3⟩
    have := h1 x (.inr rfl)
    exact ⟨⟨fun y hy => h1 y (.inl hy), h2⟩, this.1, this.2, fun hx => h3 x hx x rfl rfl⟩
  · rintro ⟨⟨h1, h2⟩, h3, h4, h5⟩
    refine ⟨?_, h2, by simp, ?_⟩
    · rintro y (hy | rfl)
      · exact h1 y hy
      · exact ⟨h3, h4⟩
    · intro a ha b hb e
      subst hb
      subst e
      exact h5 ha
theorem take_snoc (L : List Int) (k : Nat) (h : k < L.length) : L.take (k + 1) = L.take k ++ [L.getD k 0] := by
  rw [List.take_succ_eq_append_getElem h]
  simp [List.getD, h]
theorem nodesOk_take {L : List Int} (h : nodesOk L) (k : Nat) : nodesOk (L.take k) :=
  ⟨fun x hx => h.1 x (List.mem_of_mem_take hx), h.2.sublist (List.take_sublist _ _)⟩

/-- The program's note of who was seen. -/
def seenCells (T : List Int) : Array Value := #[.bool (decide (0 ∈ T)), .bool (decide (1 ∈ T)), .bool (decide (2 ∈ T)), .bool (decide (3 ∈ T)), .bool (decide (4 ∈ T))]

structure ChainV where
  epoch : Int
  nodes : List Int

def ChainV.may (c : ChainV) : Prop := 0 ≤ c.epoch ∧ c.epoch ≤ 1073741824 ∧ 1 ≤ c.nodes.length ∧ c.nodes.length ≤ 5 ∧ nodesOk c.nodes
instance (c : ChainV) : Decidable c.may := by unfold ChainV.may; infer_instance

end Go.Proofs.Ytejnphfjlphpiaa
