/-
  WHAT ChainFirsts KEEPS: a chain in its block, its row of one's own; what may follow it.
-/
import Derived.Test.YtnliadnpoledmaaChainWays
import Derived.Test.YtnliadnpoledmaaClockW
namespace Go.Proofs.Ytnliadnpoledmaa
open Go.RowKit

structure CF (w0 v : World) (b : Nat) (ex : Int) (va : Value) (C : List Int) : Prop where
  c : ChT v b ex va
  row : v.ownsRow w0.heap.size 3 1 va C.length (intCells C)
  bel : Below w0.heap.size w0 v
  hb : w0.heap.size ≤ b
theorem CF.step {w0 v v' : World} {b : Nat} {ex : Int} {va : Value} {C : List Int} (t : CF w0 v b ex va C) (hb : Below v.heap.size v v') : CF w0 v' b ex va C :=
  ⟨t.c.keep hb t.c.lt, rowOn t.row hb, t.bel.trans (hb.mono t.bel.size), t.hb⟩
theorem CF.i {w0 v : World} {b : Nat} {ex : Int} {va : Value} {C : List Int} (t : CF w0 v b ex va C) : Ints v v.heap.size va C := ints_own t.row (Nat.le_refl _)
theorem CF.fresh {w0 v : World} {ex : Int} {va : Value} {C : List Int} (hr : v.ownsRow w0.heap.size 3 1 va C.length (intCells C)) (hb : Below w0.heap.size w0 v) : CF w0 (v.alloc (.cells #[.int .i64 ex, va] 25)) v.heap.size ex va C :=
  ⟨ChT.fresh v _ _, hr.alloc _, hb.alloc hb.size _, hb.size⟩
theorem CF.stored {w0 v : World} {b : Nat} {ex e2 : Int} {va v2 : Value} {C D : List Int} (t : CF w0 v b ex va C) (hr : v.ownsRow w0.heap.size 3 1 v2 D.length (intCells D)) : CF w0 (chW v b e2 v2) b e2 v2 D := by
  obtain ⟨k1, k2⟩ := t.c.stored (ep' := e2) (v' := v2)
  exact ⟨k1, rowOnlyZ hr t.c k2, k2.below t.bel (fun x hx => by have := t.hb; omega) t.bel.size, t.hb⟩
theorem CF.other {w0 v : World} {b b2 : Nat} {ex e1 e2 : Int} {va v1 v2 : Value} {C D : List Int} (t : CF w0 v b ex va C) (t2 : CF w0 v b2 e1 v1 D) (hne : b ≠ b2) : CF w0 (chW v b2 e2 v2) b ex va C := by
  obtain ⟨_, k2⟩ := t2.c.stored (ep' := e2) (v' := v2)
  exact ⟨(k2.block _ t.c.lt hne).trans t.c, rowOnlyZ t.row t2.c k2, k2.below t.bel (fun x hx => by have := t2.hb; omega) t.bel.size, t.hb⟩

theorem nd_len : ∀ (n : Nat) (C : List Int), C.Nodup → (∀ x ∈ C, 0 ≤ x ∧ x < n) → C.length ≤ n
  | 0, C, _, h => by
    cases C with
    | nil => simp
    | cons y C => have := h y (List.mem_cons_self); omega
  | n + 1, C, hC, h => by
    have h1 := nd_len n (C.erase (n : Int)) (hC.erase _) (fun x hx => by
      have h2 := (hC.mem_erase_iff).1 hx
      have h3 := h x h2.2
      have := h2.1
      omega)
    rw [List.length_erase] at h1
    split at h1 <;> omega

/-- The chain stands, at most as many changes as epochs. -/
structure Up (K i : Nat) (ex : Int) (C : List Int) : Prop where
  may : ChainV.may ⟨ex, C⟩
  top : ex ≤ 1 + i
  lt : ∀ x ∈ C, x < K
theorem Up.first {K : Nat} (h1 : 1 ≤ K) (h5 : K ≤ 5) : Up K 0 1 (firstL K) := by
  have hm : ∀ x ∈ firstL K, 0 ≤ x ∧ x < K := fun x hx => by
    obtain ⟨m, hm, rfl⟩ := List.mem_map.1 hx
    rw [List.mem_range] at hm
    simp only [Int.ofNat_eq_natCast]
    omega
  refine ⟨⟨by simp, by simp, by simp [firstL]; omega, by simp [firstL]; omega, fun x hx => by have := hm x hx; omega, ?_⟩, by omega, fun x hx => (hm x hx).2⟩
  unfold firstL
  exact List.Pairwise.map _ (fun a b h e => h (Int.ofNat.inj e)) List.nodup_range
theorem Up.with_may {K i : Nat} {ex : Int} {C : List Int} {t : Nat} (u : Up K i ex C) (hi : i < 20) (h5 : K ≤ 5) (ht : t < K) (hn : (t : Int) ∉ C) : ChainV.may ⟨ex + 1, C ++ [(t : Int)]⟩ := by
  have hl := nd_len 5 (C ++ [(t : Int)]) (by
    rw [List.nodup_append]
    exact ⟨u.may.2.2.2.2.2, by simp, fun a ha b hb e => hn (by rw [List.mem_singleton] at hb; rw [← hb, ← e]; exact ha)⟩) (fun x hx => by
    rcases List.mem_append.1 hx with hx | hx
    · have := u.may.2.2.2.2.1 x hx; omega
    · rw [List.mem_singleton] at hx; omega)
  rw [List.length_append, List.length_singleton] at hl
  have := u.top
  exact (Go.Proofs.Ytnliadnpoledmaa.with_may u.may).2 ⟨by omega, by omega, by omega, by omega, hn⟩
theorem Up.with_not {ex : Int} {C : List Int} {t : Int} (h : ChainV.may ⟨ex, C⟩) (ht : t ∈ C) : ¬ ChainV.may ⟨ex + 1, C ++ [t]⟩ := fun hm => ((Go.Proofs.Ytnliadnpoledmaa.with_may h).1 hm).2.2.2.2 ht
theorem Up.on {K i : Nat} {ex : Int} {C : List Int} (u : Up K i ex C) : Up K (i + 1) ex C := ⟨u.may, by have := u.top; omega, u.lt⟩
theorem Up.snoc {K i : Nat} {ex : Int} {C : List Int} {t : Nat} (u : Up K i ex C) (ht : t < K) (hm : ChainV.may ⟨ex + 1, C ++ [(t : Int)]⟩) : Up K (i + 1) (ex + 1) (C ++ [(t : Int)]) :=
  ⟨hm, by have := u.top; omega, fun x hx => by
    rcases List.mem_append.1 hx with hx | hx
    · exact u.lt x hx
    · rw [List.mem_singleton] at hx; omega⟩
theorem Up.left {K i : Nat} {ex : Int} {C l : List Int} (u : Up K i ex C) (hm : ChainV.may ⟨ex + 1, leftL C l⟩) : Up K (i + 1) (ex + 1) (leftL C l) :=
  ⟨hm, by have := u.top; omega, fun x hx => u.lt x ((leftL_sub C l).subset hx)⟩
/-- Without the one that is in it: none is left just where it had no other. -/
theorem left_one {C : List Int} {t : Int} (hn : C.Nodup) : leftL C [t] = C.erase t := by
  rw [hn.erase_eq_filter]
  unfold leftL
  congr 1
  funext x
  by_cases h : x = t <;> simp [h]
theorem left_one_nil {C : List Int} {t : Int} (hn : C.Nodup) (ht : t ∈ C) : leftL C [t] = [] ↔ ¬ 1 < C.length := by
  rw [left_one hn, ← List.length_eq_zero_iff, List.length_erase, if_pos ht]
  have := List.length_pos_of_mem ht
  omega
theorem firstL_get {K i : Nat} (h : i < K) : (firstL K).getD i 0 = (i : Int) := by simp [firstL, List.getD, h]
theorem firstL_not (K : Nat) : (K : Int) ∉ firstL K := fun h => by
  obtain ⟨m, hm, he⟩ := List.mem_map.1 h
  rw [List.mem_range] at hm
  simp only [Int.ofNat_eq_natCast] at he
  omega
theorem firstL_above {K i : Nat} (hd : (firstL K).Nodup) (h : i < K) : abvV (firstL K) (i : Int) = (i : Int) - 1 := by
  have hl : i < (firstL K).length := by rw [firstL_length]; exact h
  have h1 := nodup_first hd hl
  have hm := chGet_mem hl
  rw [firstL_get h] at h1 hm
  unfold abvV
  rw [if_pos hm, h1]
  cases i with
  | zero => exact chAt_out (by omega)
  | succ j =>
    rw [show ((j + 1 : Nat) : Int) - 1 = (j : Int) by omega, chAt_in (by omega), firstL_get (by omega)]
end Go.Proofs.Ytnliadnpoledmaa
