/-
  GRANTS IN MEMORY: their block; size, has, Give, Until, New, Veto, and the same of nil. No condition but that a chain has at most a million nodes.
-/
import Derived.Test.YthinedikgbbmoaaChainA
import Derived.Test.YthinedikgbbmoaaClockV
namespace Go.Proofs.Ythinedikgbbmoaa
open Go.RowKit

/-- The grants' cells: how many nodes, where it began, until when each was promised. -/
def grCells (n beg : Nat) (f : Nat → Nat) : Array Value := (Value.int .i64 n :: .int .i64 beg :: rowF 5 f).toArray
/-- Block b is grants of n nodes. -/
structure Gr (w : World) (b n beg : Nat) (f : Nat → Nat) : Prop where
  blk : w.heap[b]? = some (.cells (grCells n beg f) 36 (0, 0))
  pos : 0 < n
  le : n ≤ 5

theorem gr_get (n beg : Nat) (f : Nat → Nat) : (grCells n beg f)[0]? = some (.int .i64 n) ∧ (grCells n beg f)[1]? = some (.int .i64 beg) ∧ (∀ j, j < 5 → (grCells n beg f)[2 + j]? = some (.int .i64 (f j : Nat))) := by
  refine ⟨rfl, rfl, fun j hj => ?_⟩
  simp only [grCells, List.getElem?_toArray]
  rw [show 2 + j = j + 1 + 1 by omega, List.getElem?_cons_succ, List.getElem?_cons_succ, rowF_get f hj]
theorem gr_set (n beg : Nat) (f : Nat → Nat) (k v : Nat) : (grCells n beg f).setIfInBounds (2 + k) (.int .i64 (v : Nat)) = grCells n beg (upF f k v) := by
  simp only [grCells, List.setIfInBounds_toArray]
  rw [show 2 + k = k + 1 + 1 by omega, List.set_cons_succ, List.set_cons_succ, rowF_set]

section
variable {w w' : World} {b n beg : Nat} {f : Nat → Nat}
theorem Gr.lt (H : Gr w b n beg f) : b < w.heap.size := lt_of_block H.blk
theorem Gr.num (H : Gr w b n beg f) : w.cell? ⟨b, 0, none⟩ = some (.int .i64 n) ∧ w.frozen? ⟨b, 0, none⟩ = false := by
  have H' := H.blk
  exact ⟨by rw [cell_of_row _ _ _ _ _ _ H']; exact (gr_get n beg f).1, by simp [World.frozen?, H']⟩
theorem Gr.began (H : Gr w b n beg f) : w.cell? ⟨b, 1, none⟩ = some (.int .i64 beg) ∧ w.frozen? ⟨b, 1, none⟩ = false := by
  have H' := H.blk
  exact ⟨by rw [cell_of_row _ _ _ _ _ _ H']; exact (gr_get n beg f).2.1, by simp [World.frozen?, H']⟩
theorem Gr.till (H : Gr w b n beg f) {j : Nat} (hj : j < 5) : w.cell? ⟨b, 2 + j, none⟩ = some (.int .i64 (f j : Nat)) ∧ w.frozen? ⟨b, 2 + j, none⟩ = false := by
  have H' := H.blk
  exact ⟨by rw [cell_of_row _ _ _ _ _ _ H']; exact (gr_get n beg f).2.2 j hj, by simp [World.frozen?, H']⟩
theorem Gr.keep {S : Nat → Prop} (H : Gr w b n beg f) (ho : Only S w w') (hs : ¬ S b) : Gr w' b n beg f := ⟨(ho.block b H.lt hs).trans H.blk, H.pos, H.le⟩
theorem Gr.on (H : Gr w b n beg f) (hb : Below w.heap.size w w') : Gr w' b n beg f := H.keep (S := fun _ => False) (.of hb) (fun h => h)
theorem Gr.set (H : Gr w b n beg f) (k v : Nat) : Gr (w.setCell ⟨b, 2 + k, none⟩ (.int .i64 (v : Nat))) b n beg (upF f k v) :=
  ⟨by rw [heap_setCell_same _ _ _ _ _ _ H.blk, gr_set n beg f], H.pos, H.le⟩
theorem Gr.drew (H : Gr w b n beg f) : Gr w.drew b n beg f := H.keep (S := fun _ => False) (Only.drew (.refl _ _)) (fun h => h)
end

set_option maxHeartbeats 400000 in
theorem grsize_r {w : World} {b n beg : Nat} {f : Nat → Nat} (H : Gr w b n beg f) : Calls Try.prog 12 #[.pointer (some ⟨b, 0, none⟩)] w fun e w' => e = .returned (.int .i64 n) ∧ w = w' := by
  obtain ⟨c0, z0⟩ := H.num
  clear H
  go_enter Try.func12, Try.ntmps12
  go_wp2
  go_returns
  exact ⟨rfl, rfl⟩
set_option maxHeartbeats 400000 in
theorem grsize_nil (w : World) : Calls Try.prog 12 #[.pointer none] w fun e w' => e = .returned (.int .i64 0) ∧ w = w' := by
  go_enter Try.func12, Try.ntmps12
  go_wp2
  go_returns
  exact ⟨rfl, rfl⟩

set_option maxHeartbeats 400000 in
theorem grhas_yes {w : World} {b n beg : Nat} {f : Nat → Nat} (H : Gr w b n beg f) (k : Int) (h0 : 0 ≤ k) (h1 : k < (n : Int)) : Calls Try.prog 11 #[.pointer (some ⟨b, 0, none⟩), .int .i64 k] w fun e w' => e = .returned (.bool true) ∧ w = w' := by
  have HC := Lib.hid (grsize_r H)
  clear H
  go_enter Try.func11, Try.ntmps11
  go_wp2_with fail
  refine HC.out.mono ?_
  rintro e w1 ⟨rfl, rfl⟩
  go_wp2
  go_returns
  exact ⟨rfl, rfl⟩
set_option maxHeartbeats 400000 in
theorem grhas_no {w : World} {b n beg : Nat} {f : Nat → Nat} (H : Gr w b n beg f) (k : Int) (h : ¬ (0 ≤ k ∧ k < (n : Int))) : Calls Try.prog 11 #[.pointer (some ⟨b, 0, none⟩), .int .i64 k] w fun e w' => e = .returned (.bool false) ∧ w = w' := by
  have HC := Lib.hid (grsize_r H)
  clear H
  by_cases h0 : 0 ≤ k
  · have h1 : (n : Int) ≤ k := by omega
    clear h
    go_enter Try.func11, Try.ntmps11
    go_wp2_with fail
    refine HC.out.mono ?_
    rintro e w1 ⟨rfl, rfl⟩
    go_wp2
    go_returns
    exact ⟨ret_bool (by simp; omega), rfl⟩
  · clear h
    go_enter Try.func11, Try.ntmps11
    go_wp2
    go_returns
    exact ⟨rfl, rfl⟩
set_option maxHeartbeats 400000 in
theorem grhas_nil (k : Int) (w : World) : Calls Try.prog 11 #[.pointer none, .int .i64 k] w fun e w' => e = .returned (.bool false) ∧ w = w' := by
  have HC := Lib.hid (grsize_nil w)
  by_cases h0 : 0 ≤ k
  · go_enter Try.func11, Try.ntmps11
    go_wp2_with fail
    refine HC.out.mono ?_
    rintro e w1 ⟨rfl, rfl⟩
    go_wp2
    go_returns
    exact ⟨ret_bool (by simp; omega), rfl⟩
  · go_enter Try.func11, Try.ntmps11
    go_wp2
    go_returns
    exact ⟨rfl, rfl⟩

/-! ### Until -/
set_option maxHeartbeats 400000 in
theorem gruntil_yes {w : World} {b n beg : Nat} {f : Nat → Nat} (H : Gr w b n beg f) (k : Nat) (hk : k < n) :
    Calls Try.prog 10 #[.pointer (some ⟨b, 0, none⟩), .int .i64 k] w fun e w' => e = .returned (.int .i64 (f k : Nat)) ∧ w = w' := by
  have HC := Lib.hid (grhas_yes H (k : Int) (by omega) (by omega))
  have k5 : k < 5 := by have := H.le; omega
  have k5' : (k : Int) < 5 := by omega
  obtain ⟨c2, z2⟩ := H.till k5
  have k0 : (0 : Int) ≤ (k : Int) := by omega
  generalize f k = fk at *
  clear hk k5 H
  go_enter Try.func10, Try.ntmps10
  go_wp2_with fail
  refine HC.out.mono ?_
  rintro e w1 ⟨rfl, rfl⟩
  go_wp2
  go_returns
  exact ⟨rfl, rfl⟩
set_option maxHeartbeats 400000 in
theorem gruntil_no {w : World} {b n beg : Nat} {f : Nat → Nat} (H : Gr w b n beg f) (k : Int) (hk : ¬ (0 ≤ k ∧ k < (n : Int))) :
    Calls Try.prog 10 #[.pointer (some ⟨b, 0, none⟩), .int .i64 k] w fun e w' => e = .returned (.int .i64 0) ∧ w = w' := by
  have HC := Lib.hid (grhas_no H k hk)
  clear H hk
  go_enter Try.func10, Try.ntmps10
  go_wp2_with fail
  refine HC.out.mono ?_
  rintro e w1 ⟨rfl, rfl⟩
  go_wp2
  go_returns
  exact ⟨rfl, rfl⟩
set_option maxHeartbeats 400000 in
theorem gruntil_nil (k : Int) (w : World) :
    Calls Try.prog 10 #[.pointer none, .int .i64 k] w fun e w' => e = .returned (.int .i64 0) ∧ w = w' := by
  have HC := Lib.hid (grhas_nil k w)
  go_enter Try.func10, Try.ntmps10
  go_wp2_with fail
  refine HC.out.mono ?_
  rintro e w1 ⟨rfl, rfl⟩
  go_wp2
  go_returns
  exact ⟨rfl, rfl⟩

/-! ### Give -/
set_option maxRecDepth 100000 in
set_option maxHeartbeats 1000000 in
theorem grgive_yes {w : World} {b n beg : Nat} {f : Nat → Nat} (H : Gr w b n beg f) (t k : Nat) (hk : k < n) (hb : beg ≤ t) (ht : t ≤ 1099511627776) :
    Calls Try.prog 7 #[.pointer (some ⟨b, 0, none⟩), .int .i64 t, .int .i64 k] w fun e w' => e = .returned (.bool true) ∧ Gr w' b n beg (upF f k (max (f k) (t + 50))) ∧ Only (· = b) w w' := by
  have HC := Lib.hid (grhas_yes H (k : Int) (by omega) (by omega))
  have k5 : k < 5 := by have := H.le; omega
  have k5' : (k : Int) < 5 := by omega
  obtain ⟨c1, z1⟩ := H.began
  obtain ⟨c2, z2⟩ := H.till k5
  have hb' : (beg : Int) ≤ (t : Int) := by omega
  have ht' : (t : Int) ≤ 1099511627776 := by omega
  have k0 : (0 : Int) ≤ (k : Int) := by omega
  have s1 : IntKind.i64.wrap ((t : Int) + 50) = (t : Int) + 50 := by rw [IntKind.wrap_i64]; omega
  have HE := Lib.hid ((H.set k (max (f k) (t + 50))).drew)
  have HO := Lib.hid ((Only.set b (2 + k) w (.int .i64 ((max (f k) (t + 50) : Nat) : Int))).drew)
  by_cases hm : f k < t + 50
  · have hm' : ((f k : Nat) : Int) < (t : Int) + 50 := by omega
    rw [show max (f k) (t + 50) = t + 50 by omega] at HE HO ⊢
    generalize f k = fk at *
    clear hb ht hk k5 H hm
    go_enter Try.func7, Try.ntmps7
    go_wp2_with fail
    refine HC.out.mono ?_
    rintro e w1 ⟨rfl, rfl⟩
    go_wp2_with fail
    go_region
    go_wp2
    go_returns
    exact ⟨rfl, HE.out, HO.out⟩
  · have hm' : ¬ ((f k : Nat) : Int) < (t : Int) + 50 := by omega
    rw [show max (f k) (t + 50) = f k by omega] at HE HO ⊢
    generalize f k = fk at *
    clear hb ht hk k5 H hm
    go_enter Try.func7, Try.ntmps7
    go_wp2_with fail
    refine HC.out.mono ?_
    rintro e w1 ⟨rfl, rfl⟩
    go_wp2_with fail
    go_region
    go_wp2
    go_returns
    exact ⟨rfl, HE.out, HO.out⟩
set_option maxHeartbeats 400000 in
theorem grgive_none {w : World} {b n beg : Nat} {f : Nat → Nat} (H : Gr w b n beg f) (t k : Int) (hk : ¬ (0 ≤ k ∧ k < (n : Int))) :
    Calls Try.prog 7 #[.pointer (some ⟨b, 0, none⟩), .int .i64 t, .int .i64 k] w fun e w' => e = .returned (.bool false) ∧ w = w' := by
  have HC := Lib.hid (grhas_no H k hk)
  clear H hk
  go_enter Try.func7, Try.ntmps7
  go_wp2_with fail
  refine HC.out.mono ?_
  rintro e w1 ⟨rfl, rfl⟩
  go_wp2
  go_returns
  exact ⟨rfl, rfl⟩
set_option maxHeartbeats 400000 in
theorem grgive_when {w : World} {b n beg : Nat} {f : Nat → Nat} (H : Gr w b n beg f) (t k : Int) (hk : 0 ≤ k ∧ k < (n : Int)) (ht : ¬ ((beg : Int) ≤ t ∧ t ≤ 1099511627776)) :
    Calls Try.prog 7 #[.pointer (some ⟨b, 0, none⟩), .int .i64 t, .int .i64 k] w fun e w' => e = .returned (.bool false) ∧ w = w' := by
  have HC := Lib.hid (grhas_yes H k hk.1 hk.2)
  obtain ⟨c1, z1⟩ := H.began
  clear H hk
  by_cases h : t < (beg : Int)
  · clear ht
    go_enter Try.func7, Try.ntmps7
    go_wp2_with fail
    refine HC.out.mono ?_
    rintro e w1 ⟨rfl, rfl⟩
    go_wp2
    go_returns
    exact ⟨rfl, rfl⟩
  · have h2 : 1099511627776 < t := by omega
    clear ht
    go_enter Try.func7, Try.ntmps7
    go_wp2_with fail
    refine HC.out.mono ?_
    rintro e w1 ⟨rfl, rfl⟩
    go_wp2
    go_returns
    exact ⟨rfl, rfl⟩
theorem grgive_no {w : World} {b n beg : Nat} {f : Nat → Nat} (H : Gr w b n beg f) (t k : Int) (h : ¬ ((0 ≤ k ∧ k < (n : Int)) ∧ (beg : Int) ≤ t ∧ t ≤ 1099511627776)) :
    Calls Try.prog 7 #[.pointer (some ⟨b, 0, none⟩), .int .i64 t, .int .i64 k] w fun e w' => e = .returned (.bool false) ∧ w = w' := by
  by_cases hk : 0 ≤ k ∧ k < (n : Int)
  · exact grgive_when H t k hk fun h' => h ⟨hk, h'⟩
  · exact grgive_none H t k hk
set_option maxHeartbeats 400000 in
theorem grgive_nil (t k : Int) (w : World) :
    Calls Try.prog 7 #[.pointer none, .int .i64 t, .int .i64 k] w fun e w' => e = .returned (.bool false) ∧ w = w' := by
  have HC := Lib.hid (grhas_nil k w)
  go_enter Try.func7, Try.ntmps7
  go_wp2_with fail
  refine HC.out.mono ?_
  rintro e w1 ⟨rfl, rfl⟩
  go_wp2
  go_returns
  exact ⟨rfl, rfl⟩
end Go.Proofs.Ythinedikgbbmoaa
