/-
  A CHAIN AS PLAIN DATA: a slice of ints as a list; which chains may be. No condition.
-/
import Derived.Test.YtaaffceanjpmbaaItemA
namespace Go.Proofs.Ytaaffceanjpmbaa
open Go.RowKit

/-- The slice value v holds the ints L, in a block below B. -/
def Ints (w : World) (B : Nat) (v : Value) (L : List Int) : Prop :=
  ∃ ao cap, v = .slice ao L.length cap ∧ L.length ≤ cap ∧ cap ≤ maxLen ∧ (ao = none → cap = 0) ∧
    (L ≠ [] → ∃ b off, ao = some ⟨b, off, none⟩ ∧ b < B ∧ ∀ j, j < L.length → w.cell? ⟨b, off + j, none⟩ = some (.int .i64 (L.getD j 0)))

theorem Ints.keep {w w' : World} {B : Nat} {v : Value} {L : List Int} (h : Ints w B v L) (hb : Below B w w') : Ints w' B v L := by
  obtain ⟨ao, cap, rfl, h1, h2, h3, h4⟩ := h
  refine ⟨ao, cap, rfl, h1, h2, h3, fun hl => ?_⟩
  obtain ⟨b, off, rfl, hbB, hc⟩ := h4 hl
  exact ⟨b, off, rfl, hbB, fun j hj => (hb.cell (p := ⟨b, off + j, none⟩) hbB).trans (hc j hj)⟩
theorem Ints.mono {w : World} {B B' : Nat} {v : Value} {L : List Int} (h : Ints w B v L) (hB : B ≤ B') : Ints w B' v L := by
  obtain ⟨ao, cap, rfl, h1, h2, h3, h4⟩ := h
  refine ⟨ao, cap, rfl, h1, h2, h3, fun hl => ?_⟩
  obtain ⟨b, off, rfl, hbB, hc⟩ := h4 hl
  exact ⟨b, off, rfl, by omega, hc⟩
theorem Ints.none (w : World) (B : Nat) : Ints w B (.slice none 0 0) [] := ⟨_, _, rfl, Nat.le_refl _, Nat.zero_le _, fun _ => rfl, fun h => absurd rfl h⟩

def intCells (L : List Int) : List Value := L.map fun n => .int .i64 n

theorem ints_own {w : World} {base B : Nat} {v : Value} {n : Nat} {L : List Int} (h : w.ownsRow base 3 1 v n (intCells L)) (hB : w.heap.size ≤ B) : Ints w B v L := by
  have hn : L.length = n := by have := h.1; simp [intCells] at this; omega
  subst hn
  rcases h.2 with ⟨rfl, h0⟩ | ⟨g, cap, cur, rfl, hg, hh, hle, hmax, hsz, htake⟩
  · have : L = [] := List.eq_nil_of_length_eq_zero (by simpa using h0)
    subst this
    exact Ints.none _ _
  · refine ⟨some ⟨g, 0, Option.none⟩, cap, rfl, hle, hmax, fun h => (by cases h), fun _ => ⟨g, 0, rfl, by have := lt_of_block hh; omega, fun j hj => ?_⟩⟩
    have hx : (intCells L)[j]? = some (.int .i64 (L.getD j 0)) := by simp [intCells, hj]
    have := h.cells (g := g) rfl j _ hx
    rwa [Addr.add_lit] at this

def nodesOk (L : List Int) : Prop := (∀ x ∈ L, 0 ≤ x ∧ x ≤ 4) ∧ L.Nodup
instance (L : List Int) : Decidable (nodesOk L) := by unfold nodesOk; infer_instance

theorem nodesOk_nil : nodesOk [] := ⟨by simp, List.nodup_nil⟩
theorem nodesOk_snoc (T : List Int) (x : Int) : nodesOk (T ++ [x]) ↔ nodesOk T ∧ 0 ≤ x ∧ x ≤ 4 ∧ x ∉ T := by
  unfold nodesOk
  rw [List.nodup_append]
  simp only [List.mem_append, List.mem_singleton]
  constructor
  · rintro ⟨h1, h2, _, h3⟩
    have := h1 x (.inr rfl)
    exact ⟨⟨fun y hy => h1 y (.inl hy), h2⟩, this.1, this.2, fun hx => h3 x hx x rfl rfl⟩
  · rintro ⟨⟨h1, h2⟩, h3, h4, h5⟩
    refine ⟨?_, h2, by simp, ?_⟩
    · rintro y (hy | rfl)
      · exact h1 y hy
      · exact ⟨h3, h4⟩
    · intro a ha b hb e
      subst hb
      subst e
      exact h5 ha
theorem take_snoc (L : List Int) (k : Nat) (h : k < L.length) : L.take (k + 1) = L.take k ++ [L.getD k 0] := by
  rw [List.take_succ_eq_append_getElem h]
  simp [List.getD, h]
theorem nodesOk_take {L : List Int} (h : nodesOk L) (k : Nat) : nodesOk (L.take k) :=
  ⟨fun x hx => h.1 x (List.mem_of_mem_take hx), h.2.sublist (List.take_sublist _ _)⟩

/-- The program's note of who was seen. -/
def seenCells (T : List Int) : Array Value := #[.bool (decide (0 ∈ T)), .bool (decide (1 ∈ T)), .bool (decide (2 ∈ T)), .bool (decide (3 ∈ T)), .bool (decide (4 ∈ T))]

structure ChainV where
  epoch : Int
  nodes : List Int

def ChainV.may (c : ChainV) : Prop := 0 ≤ c.epoch ∧ c.epoch ≤ 1073741824 ∧ 1 ≤ c.nodes.length ∧ c.nodes.length ≤ 5 ∧ nodesOk c.nodes
instance (c : ChainV) : Decidable c.may := by unfold ChainV.may; infer_instance

set_option maxHeartbeats 2000000 in
set_option maxRecDepth 100000 in
theorem maynodes_some (b off n cap : Nat) (L : List Int) (w : World) (hn : L.length = n) (hm : n ≤ 5) (hbw : b < w.heap.size) (hc : ∀ j, j < n → w.cell? ⟨b, off + j, none⟩ = some (.int .i64 (L.getD j 0))) :
    Calls Try.prog 58 #[.slice (some ⟨b, off, none⟩) n cap] w fun e w' => e = .returned (.bool (decide (nodesOk L))) ∧ Below w.heap.size w w' := by
  have HC := Lib.hid hc
  have HN := Lib.hid hn
  obtain ⟨R, hR⟩ : ∃ R, R = decide (nodesOk L) := ⟨_, rfl⟩
  rw [← hR]
  have HR := Lib.hid hR
  clear hc hn hR
  go_enter Try.func58, Try.ntmps58
  go_wp2
  go_loopw [8] (fun vi wr => ∃ k : Nat, k ≤ n ∧ vi = .int .i64 k ∧ nodesOk (L.take k) ∧ (∃ e, wr.heap[w.heap.size]? = some (.cells (seenCells (L.take k)) e (0, 0))) ∧ Below w.heap.size w wr)
    (fun vi _ => n - (intOf vi).toNat)
  case atStart =>
    exact ⟨0, by omega, rfl, nodesOk_nil, ⟨_, heap_alloc_new w _⟩, (Below.refl _ _).alloc (Nat.le_refl _) _⟩
  case round =>
    obtain ⟨k, hk, rfl, hok, ⟨e0, hb0⟩, hnx⟩ := hrel
    have HK := Lib.hid hok
    have H0 := Lib.hid hb0
    clear hok
    by_cases hlt : k < n
    · obtain ⟨x, hx⟩ : ∃ x, x = L.getD k 0 := ⟨_, rfl⟩
      have hcell : wr.cell? ⟨b, off + k, none⟩ = some (.int .i64 x) := by
        rw [hx, ← HC.out k hlt]
        exact hnx.cell (p := ⟨b, off + k, none⟩) hbw
      have HT : Hid (L.take (k + 1) = L.take k ++ [x]) := by show _ = _; rw [hx]; exact take_snoc L k (by rw [HN.out]; exact hlt)
      clear hx
      by_cases hin : 0 ≤ x ∧ x ≤ 4
      · obtain ⟨h1, h2⟩ := hin
        have W := Lib.hid (fun u => within_yes x 0 4 u h1 h2)
        by_cases hmem : x ∈ L.take k
        · have HF : Hid (R = false) := by
            show _ = _
            rw [HR.out]
            refine decide_eq_false fun h => ?_
            have := nodesOk_take h (k + 1)
            rw [HT.out, nodesOk_snoc] at this
            exact this.2.2.2 hmem
          rcases (show x = 0 ∨ x = 1 ∨ x = 2 ∨ x = 3 ∨ x = 4 by omega) with rfl | rfl | rfl | rfl | rfl
          case' inl => have s0 : wr.cell? ⟨w.heap.size, 0, none⟩ = some (.bool true) := by rw [cell_of_row wr _ 0 _ _ _ hb0, ← decide_eq_true hmem]; rfl
          case' inr.inl => have s0 : wr.cell? ⟨w.heap.size, 1, none⟩ = some (.bool true) := by rw [cell_of_row wr _ 1 _ _ _ hb0, ← decide_eq_true hmem]; rfl
          case' inr.inr.inl => have s0 : wr.cell? ⟨w.heap.size, 2, none⟩ = some (.bool true) := by rw [cell_of_row wr _ 2 _ _ _ hb0, ← decide_eq_true hmem]; rfl
          case' inr.inr.inr.inl => have s0 : wr.cell? ⟨w.heap.size, 3, none⟩ = some (.bool true) := by rw [cell_of_row wr _ 3 _ _ _ hb0, ← decide_eq_true hmem]; rfl
          case' inr.inr.inr.inr => have s0 : wr.cell? ⟨w.heap.size, 4, none⟩ = some (.bool true) := by rw [cell_of_row wr _ 4 _ _ _ hb0, ← decide_eq_true hmem]; rfl
          all_goals
            clear h1 h2 hb0 hmem
            go_wp2_with fail
            refine (W.out _).mono ?_
            rintro e w1 ⟨rfl, rfl⟩
            go_wp2
            go_returns
            exact ⟨ret_bool HF.out.symm, hnx⟩
        · have hok' : Hid (nodesOk (L.take (k + 1))) := by
            show nodesOk _
            rw [HT.out, nodesOk_snoc]
            exact ⟨HK.out, h1, h2, hmem⟩
          rcases (show x = 0 ∨ x = 1 ∨ x = 2 ∨ x = 3 ∨ x = 4 by omega) with rfl | rfl | rfl | rfl | rfl
          case' inl =>
            have s0 : wr.cell? ⟨w.heap.size, 0, none⟩ = some (.bool false) := by rw [cell_of_row wr _ 0 _ _ _ hb0, ← decide_eq_false hmem]; rfl
            have z0 : wr.frozen? ⟨w.heap.size, 0, none⟩ = false := frozen_of_row wr _ 0 _ _ hb0
          case' inr.inl =>
            have s0 : wr.cell? ⟨w.heap.size, 1, none⟩ = some (.bool false) := by rw [cell_of_row wr _ 1 _ _ _ hb0, ← decide_eq_false hmem]; rfl
            have z0 : wr.frozen? ⟨w.heap.size, 1, none⟩ = false := frozen_of_row wr _ 1 _ _ hb0
          case' inr.inr.inl =>
            have s0 : wr.cell? ⟨w.heap.size, 2, none⟩ = some (.bool false) := by rw [cell_of_row wr _ 2 _ _ _ hb0, ← decide_eq_false hmem]; rfl
            have z0 : wr.frozen? ⟨w.heap.size, 2, none⟩ = false := frozen_of_row wr _ 2 _ _ hb0
          case' inr.inr.inr.inl =>
            have s0 : wr.cell? ⟨w.heap.size, 3, none⟩ = some (.bool false) := by rw [cell_of_row wr _ 3 _ _ _ hb0, ← decide_eq_false hmem]; rfl
            have z0 : wr.frozen? ⟨w.heap.size, 3, none⟩ = false := frozen_of_row wr _ 3 _ _ hb0
          case' inr.inr.inr.inr =>
            have s0 : wr.cell? ⟨w.heap.size, 4, none⟩ = some (.bool false) := by rw [cell_of_row wr _ 4 _ _ _ hb0, ← decide_eq_false hmem]; rfl
            have z0 : wr.frozen? ⟨w.heap.size, 4, none⟩ = false := frozen_of_row wr _ 4 _ _ hb0
          all_goals
            clear h1 h2 hb0 hmem
            go_wp2_with fail
            refine (W.out _).mono ?_
            rintro e w1 ⟨rfl, rfl⟩
            go_wp2
            go_roundw
            case rel =>
              refine ⟨k + 1, by omega, by go_num, hok'.out, ⟨e0, ?_⟩, hnx.setCell (by simp) _⟩
              rw [heap_setCell_same _ _ _ _ _ _ H0.out, HT.out]
              simp [seenCells]
            case measure => simp [intOf]; omega
      · have W := Lib.hid (fun u => within_no x 0 4 u (by omega))
        have HF : Hid (R = false) := by
          show _ = _
          rw [HR.out]
          refine decide_eq_false fun h => ?_
          have := nodesOk_take h (k + 1)
          rw [HT.out, nodesOk_snoc] at this
          exact hin ⟨this.2.1, this.2.2.1⟩
        clear hin hb0
        go_wp2_with fail
        refine (W.out _).mono ?_
        rintro e w1 ⟨rfl, rfl⟩
        go_wp2
        go_returns
        exact ⟨ret_bool HF.out.symm, hnx⟩
    · have hkn : k = n := by omega
      have HF : Hid (R = true) := by
        show _ = _
        rw [HR.out]
        refine decide_eq_true ?_
        have := HK.out
        rwa [hkn, List.take_of_length_le (by rw [HN.out]; omega)] at this
      clear hkn hb0
      go_wp2
      go_returns
      exact ⟨ret_bool HF.out.symm, hnx⟩
end Go.Proofs.Ytaaffceanjpmbaa
