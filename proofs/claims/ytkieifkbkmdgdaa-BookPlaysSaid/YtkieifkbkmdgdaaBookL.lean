/-
  A TABLE AS A LIST, gone over: what lies at and above a key, at and below it; ints in memory by their places. No condition but that the keys rise.
-/
import Derived.Test.YtkieifkbkmdgdaaBookO
import Derived.Test.YtkieifkbkmdgdaaBookArgs
namespace Go.Proofs.Ytkieifkbkmdgdaa
open Go.RowKit

theorem pw_get {R : Int → Int → Prop} {L : List Int} (h : L.Pairwise R) {i j : Nat} (hij : i < j) (hj : j < L.length) : R (L.getD i 0) (L.getD j 0) := by
  have := List.pairwise_iff_getElem.1 h i j (by omega) hj hij
  simpa [List.getD, show i < L.length by omega, hj] using this
theorem keys_pw {L : List (Int × Int)} (h : Rise L) : (keysL L).Pairwise (· < ·) := List.pairwise_map.2 h
theorem up_pw {L : List (Int × Int)} (h : Rise L) (k : Int) : (upL k L).Pairwise (· < ·) := keys_pw (h.filter _)
theorem down_pw {L : List (Int × Int)} (h : Rise L) (k : Int) : (downL k L).Pairwise (· > ·) := List.pairwise_reverse.2 (keys_pw (h.filter _))
theorem up_ge (k : Int) (L : List (Int × Int)) : ∀ x ∈ upL k L, k ≤ x := by
  intro x hx
  obtain ⟨y, hy, rfl⟩ := List.mem_map.1 hx
  simpa using (List.mem_filter.1 hy).2
theorem down_le (k : Int) (L : List (Int × Int)) : ∀ x ∈ downL k L, x ≤ k := by
  intro x hx
  obtain ⟨y, hy, rfl⟩ := List.mem_map.1 (List.mem_reverse.1 hx)
  simpa using (List.mem_filter.1 hy).2
theorem getD_mem {L : List Int} {j : Nat} (h : j < L.length) : L.getD j 0 ∈ L := by simp [List.getD, h]
theorem both_no (k : Int) : ∀ L : List (Int × Int), (∀ x ∈ L, x.1 ≠ k) → (L.filter fun x => decide (k ≤ x.1)).length + (L.filter fun x => decide (x.1 ≤ k)).length = L.length
  | [], _ => rfl
  | x :: L, h => by
    have ih := both_no k L fun y hy => h y (List.mem_cons_of_mem _ hy)
    have hx := h x (by simp)
    simp only [List.filter_cons, List.length_cons]
    by_cases h1 : k ≤ x.1
    · have h2 : ¬ x.1 ≤ k := by omega
      simp only [decide_eq_true h1, decide_eq_false h2, if_true, List.length_cons]
      simp; omega
    · have h2 : x.1 ≤ k := by omega
      simp only [decide_eq_false h1, decide_eq_true h2, if_true, List.length_cons]
      simp; omega
theorem both_len {L : List (Int × Int)} (hr : Rise L) (k : Int) : (upL k L).length + (downL k L).length = L.length + (if (getL k L).isSome then 1 else 0) := by
  unfold upL downL
  rw [List.length_reverse, List.length_map, List.length_map]
  cases hg : getL k L with
  | none => simpa using both_no k L (getL_none hg)
  | some v =>
    obtain ⟨l, r, rfl⟩ := getL_split hg
    obtain ⟨_, _, h3, h4⟩ := hr.parts
    have h1 := both_no k l fun x hx => by have := h3 x hx; omega
    have h2 := both_no k r fun x hx => by have := h4 x hx; omega
    simp only [List.filter_append, List.length_append, List.filter_cons_of_pos, List.length_cons, Option.isSome_some, if_true, Int.le_refl, decide_true]
    omega

theorem ints_len6 {w : World} {B n : Nat} {ao : Option Addr} {cap : Nat} {L : List Int} (h : Ints w B (.slice ao n cap) L) : n = L.length := by
  obtain ⟨_, _, hv, _⟩ := h
  cases hv
  rfl
theorem ints_at6 {w : World} {B n : Nat} {ao : Option Addr} {cap : Nat} {L : List Int} (h : Ints w B (.slice ao n cap) L) (hn : 0 < n) :
    ∃ b off, ao = some ⟨b, off, none⟩ ∧ b < B ∧ ∀ j, j < n → w.cell? ⟨b, off + j, none⟩ = some (.int .i64 (L.getD j 0)) := by
  have hs := ints_len6 h
  obtain ⟨_, _, hv, _, _, _, h4⟩ := h
  obtain ⟨b, off, rfl, hb, hc⟩ := h4 (List.length_pos_iff.1 (by omega))
  cases hv
  exact ⟨b, off, rfl, hb, hc⟩
theorem below_drew {B : Nat} {a w : World} (h : Below B a w) (n : Nat) : Below B a (w.drewN n) := ⟨h.os, h.tape, h.output, h.size, h.block⟩
end Go.Proofs.Ytkieifkbkmdgdaa
