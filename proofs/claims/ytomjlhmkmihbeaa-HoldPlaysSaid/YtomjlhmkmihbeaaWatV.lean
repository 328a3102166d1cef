/-
  A WATCH IN MEMORY: its block; size, has, Heard, There, New, and the same of nil. No condition but that a time is a number of its kind.
-/
import Derived.Test.YtomjlhmkmihbeaaClockV
namespace Go.Proofs.Ytomjlhmkmihbeaa
open Go.RowKit

/-- The watch's cells: how many nodes, who it is, when each was heard. -/
def wtCells (n s : Nat) (f : Nat → Nat) : Array Value := (Value.int .i64 n :: .int .i64 s :: rowF 5 f).toArray
/-- Block b is a watch of n nodes. -/
structure Wt (w : World) (b n s : Nat) (f : Nat → Nat) : Prop where
  blk : w.heap[b]? = some (.cells (wtCells n s f) 85 (0, 0))
  pos : 0 < n
  le : n ≤ 5

theorem wt_get (n s : Nat) (f : Nat → Nat) : (wtCells n s f)[0]? = some (.int .i64 n) ∧ (wtCells n s f)[1]? = some (.int .i64 s) ∧ (∀ j, j < 5 → (wtCells n s f)[2 + j]? = some (.int .i64 (f j : Nat))) := by
  refine ⟨rfl, rfl, fun j hj => ?_⟩
  simp only [wtCells, List.getElem?_toArray]
  rw [show 2 + j = j + 1 + 1 by omega, List.getElem?_cons_succ, List.getElem?_cons_succ, rowF_get f hj]
theorem wt_set (n s : Nat) (f : Nat → Nat) (k v : Nat) : (wtCells n s f).setIfInBounds (2 + k) (.int .i64 (v : Nat)) = wtCells n s (upF f k v) := by
  simp only [wtCells, List.setIfInBounds_toArray]
  rw [show 2 + k = k + 1 + 1 by omega, List.set_cons_succ, List.set_cons_succ, rowF_set]

section
variable {w w' : World} {b n s : Nat} {f : Nat → Nat}
theorem Wt.lt (H : Wt w b n s f) : b < w.heap.size := lt_of_block H.blk
theorem Wt.num (H : Wt w b n s f) : w.cell? ⟨b, 0, none⟩ = some (.int .i64 n) ∧ w.frozen? ⟨b, 0, none⟩ = false := by
  have H' := H.blk
  exact ⟨by rw [cell_of_row _ _ _ _ _ _ H']; exact (wt_get n s f).1, by simp [World.frozen?, H']⟩
theorem Wt.own (H : Wt w b n s f) : w.cell? ⟨b, 1, none⟩ = some (.int .i64 s) ∧ w.frozen? ⟨b, 1, none⟩ = false := by
  have H' := H.blk
  exact ⟨by rw [cell_of_row _ _ _ _ _ _ H']; exact (wt_get n s f).2.1, by simp [World.frozen?, H']⟩
theorem Wt.heard (H : Wt w b n s f) {j : Nat} (hj : j < 5) : w.cell? ⟨b, 2 + j, none⟩ = some (.int .i64 (f j : Nat)) ∧ w.frozen? ⟨b, 2 + j, none⟩ = false := by
  have H' := H.blk
  exact ⟨by rw [cell_of_row _ _ _ _ _ _ H']; exact (wt_get n s f).2.2 j hj, by simp [World.frozen?, H']⟩
theorem Wt.keep {S : Nat → Prop} (H : Wt w b n s f) (ho : Only S w w') (hs : ¬ S b) : Wt w' b n s f := ⟨(ho.block b H.lt hs).trans H.blk, H.pos, H.le⟩
theorem Wt.on (H : Wt w b n s f) (hb : Below w.heap.size w w') : Wt w' b n s f := H.keep (S := fun _ => False) (.of hb) (fun h => h)
theorem Wt.set (H : Wt w b n s f) (k v : Nat) : Wt (w.setCell ⟨b, 2 + k, none⟩ (.int .i64 (v : Nat))) b n s (upF f k v) :=
  ⟨by rw [heap_setCell_same _ _ _ _ _ _ H.blk, wt_set n s f], H.pos, H.le⟩
theorem Wt.drew (H : Wt w b n s f) : Wt w.drew b n s f := H.keep (S := fun _ => False) (Only.drew (.refl _ _)) (fun h => h)
end

set_option maxHeartbeats 400000 in
theorem wtsize_r {w : World} {b n s : Nat} {f : Nat → Nat} (H : Wt w b n s f) : Calls Try.prog 48 #[.pointer (some ⟨b, 0, none⟩)] w fun e w' => e = .returned (.int .i64 n) ∧ w = w' := by
  obtain ⟨c0, z0⟩ := H.num
  clear H
  go_enter Try.func48, Try.ntmps48
  go_wp2
  go_returns
  exact ⟨rfl, rfl⟩
set_option maxHeartbeats 400000 in
theorem wtsize_nil (w : World) : Calls Try.prog 48 #[.pointer none] w fun e w' => e = .returned (.int .i64 0) ∧ w = w' := by
  go_enter Try.func48, Try.ntmps48
  go_wp2
  go_returns
  exact ⟨rfl, rfl⟩

set_option maxHeartbeats 400000 in
theorem wthas_yes {w : World} {b n s : Nat} {f : Nat → Nat} (H : Wt w b n s f) (k : Int) (h0 : 0 ≤ k) (h1 : k < (n : Int)) : Calls Try.prog 45 #[.pointer (some ⟨b, 0, none⟩), .int .i64 k] w fun e w' => e = .returned (.bool true) ∧ w = w' := by
  have HC := Lib.hid (wtsize_r H)
  clear H
  go_enter Try.func45, Try.ntmps45
  go_wp2_with fail
  refine HC.out.mono ?_
  rintro e w1 ⟨rfl, rfl⟩
  go_wp2
  go_returns
  exact ⟨rfl, rfl⟩
set_option maxHeartbeats 400000 in
theorem wthas_no {w : World} {b n s : Nat} {f : Nat → Nat} (H : Wt w b n s f) (k : Int) (h : ¬ (0 ≤ k ∧ k < (n : Int))) : Calls Try.prog 45 #[.pointer (some ⟨b, 0, none⟩), .int .i64 k] w fun e w' => e = .returned (.bool false) ∧ w = w' := by
  have HC := Lib.hid (wtsize_r H)
  clear H
  by_cases h0 : 0 ≤ k
  · have h1 : (n : Int) ≤ k := by omega
    clear h
    go_enter Try.func45, Try.ntmps45
    go_wp2_with fail
    refine HC.out.mono ?_
    rintro e w1 ⟨rfl, rfl⟩
    go_wp2
    go_returns
    exact ⟨ret_bool (by simp; omega), rfl⟩
  · clear h
    go_enter Try.func45, Try.ntmps45
    go_wp2
    go_returns
    exact ⟨rfl, rfl⟩
set_option maxHeartbeats 400000 in
theorem wthas_nil (k : Int) (w : World) : Calls Try.prog 45 #[.pointer none, .int .i64 k] w fun e w' => e = .returned (.bool false) ∧ w = w' := by
  have HC := Lib.hid (wtsize_nil w)
  by_cases h0 : 0 ≤ k
  · go_enter Try.func45, Try.ntmps45
    go_wp2_with fail
    refine HC.out.mono ?_
    rintro e w1 ⟨rfl, rfl⟩
    go_wp2
    go_returns
    exact ⟨ret_bool (by simp; omega), rfl⟩
  · go_enter Try.func45, Try.ntmps45
    go_wp2
    go_returns
    exact ⟨rfl, rfl⟩

/-! ### There -/
/-- Is he there? -/
def isT (n s : Nat) (f : Nat → Nat) (t k : Int) : Bool := decide ((0 ≤ k ∧ k < (n : Int)) ∧ (k = (s : Int) ∨ t < (f k.toNat : Int) + 12))
/-- A number that its kind can hold, from above. -/
structure Top (t : Int) : Prop where
  le : t ≤ 9223372036854775807
theorem Top.of_wf {t : Int} (h : (Lit.int .i64 t).wf = true) : Top t := by
  simp [Lit.wf, IntKind.min, IntKind.max, IntKind.signed, IntKind.bits] at h
  exact ⟨by omega⟩
theorem sub_in {t x : Int} (ht : Top t) (h0 : 0 ≤ x) (hx : x ≤ t) : wrap64 (t - x) = t - x := by
  have h := ht.le
  exact IntWalk.wrap64_in _ (by omega)

set_option maxRecDepth 100000 in
set_option maxHeartbeats 1000000 in
theorem wtthere_r {w : World} {b n s : Nat} {f : Nat → Nat} (H : Wt w b n s f) (t k : Int) (ht : Top t) {R : Bool} (hR : isT n s f t k = R) :
    Calls Try.prog 33 #[.pointer (some ⟨b, 0, none⟩), .int .i64 t, .int .i64 k] w fun e w' => e = .returned (.bool R) ∧ w = w' := by
  have HR := Lib.hid hR
  by_cases hk : 0 ≤ k ∧ k < (n : Int)
  · have HC := Lib.hid (wthas_yes H k hk.1 hk.2)
    obtain ⟨m, rfl⟩ : ∃ m : Nat, k = m := ⟨k.toNat, by omega⟩
    have m5 : m < 5 := by have := H.le; omega
    have m5' : (m : Int) < 5 := by omega
    have m0 : (0 : Int) ≤ (m : Int) := by omega
    obtain ⟨c1, z1⟩ := H.own
    obtain ⟨c2, z2⟩ := H.heard m5
    have HV : Hid (R = decide ((m : Int) = (s : Int) ∨ t < (f m : Int) + 12)) := by
      show _ = _
      rw [← hR]
      unfold isT
      rw [show ((m : Int)).toNat = m by omega]
      exact decide_eq_decide.2 ⟨fun h => h.2, fun h => ⟨hk, h⟩⟩
    clear hR HR H m5
    generalize f m = fm at *
    clear hk
    by_cases hs : (m : Int) = (s : Int)
    · have hs' : ((m : Int) == (s : Int)) = true := by simpa using hs
      have HX : Hid (R = true) := by show _ = _; rw [HV.out]; exact decide_eq_true (.inl hs)
      clear hs
      go_enter Try.func33, Try.ntmps33
      go_wp2_with fail
      refine HC.out.mono ?_
      rintro e w1 ⟨rfl, rfl⟩
      go_wp2
      go_returns
      exact ⟨ret_bool (by first | exact HX.out.symm | (rw [HX.out]; simp_all)), rfl⟩
    · have hs' : ((m : Int) == (s : Int)) = false := by simpa using hs
      by_cases ht1 : t < (fm : Int)
      · have HX : Hid (R = true) := by show _ = _; rw [HV.out]; exact decide_eq_true (.inr (by omega))
        clear hs
        go_enter Try.func33, Try.ntmps33
        go_wp2_with fail
        refine HC.out.mono ?_
        rintro e w1 ⟨rfl, rfl⟩
        go_wp2
        go_returns
        exact ⟨ret_bool (by first | exact HX.out.symm | (rw [HX.out]; simp_all)), rfl⟩
      · have hsub := sub_in ht (show (0 : Int) ≤ (fm : Int) by omega) (show (fm : Int) ≤ t by omega)
        by_cases ht2 : t - (fm : Int) < 12
        · have HX : Hid (R = true) := by show _ = _; rw [HV.out]; exact decide_eq_true (.inr (by omega))
          clear hs
          go_enter Try.func33, Try.ntmps33
          go_wp2_with fail
          refine HC.out.mono ?_
          rintro e w1 ⟨rfl, rfl⟩
          go_wp2
          go_returns
          exact ⟨ret_bool (by first | exact HX.out.symm | (rw [HX.out]; simp_all)), rfl⟩
        · have HX : Hid (R = false) := by show _ = _; rw [HV.out]; exact decide_eq_false (by omega)
          clear hs
          go_enter Try.func33, Try.ntmps33
          go_wp2_with fail
          refine HC.out.mono ?_
          rintro e w1 ⟨rfl, rfl⟩
          go_wp2
          go_returns
          exact ⟨ret_bool (by first | exact HX.out.symm | (rw [HX.out]; simp_all)), rfl⟩
  · have HC := Lib.hid (wthas_no H k hk)
    have HX : Hid (R = false) := by show _ = _; rw [← hR]; exact decide_eq_false (fun h => hk h.1)
    clear hR HR H hk
    go_enter Try.func33, Try.ntmps33
    go_wp2_with fail
    refine HC.out.mono ?_
    rintro e w1 ⟨rfl, rfl⟩
    go_wp2
    go_returns
    exact ⟨ret_bool HX.out.symm, rfl⟩
set_option maxHeartbeats 400000 in
theorem wtthere_nil (t k : Int) (w : World) :
    Calls Try.prog 33 #[.pointer none, .int .i64 t, .int .i64 k] w fun e w' => e = .returned (.bool false) ∧ w = w' := by
  have HC := Lib.hid (wthas_nil k w)
  go_enter Try.func33, Try.ntmps33
  go_wp2_with fail
  refine HC.out.mono ?_
  rintro e w1 ⟨rfl, rfl⟩
  go_wp2
  go_returns
  exact ⟨rfl, rfl⟩

/-! ### Heard -/
/-- What was heard. -/
def hearV (n : Nat) (f : Nat → Nat) (t k : Int) : Nat → Nat := if 0 ≤ k ∧ k < (n : Int) then upF f k.toNat (max (f k.toNat) t.toNat) else f
set_option maxRecDepth 100000 in
set_option maxHeartbeats 1000000 in
theorem wtheard_r {w : World} {b n s : Nat} {f : Nat → Nat} (H : Wt w b n s f) (t k : Int) :
    Calls Try.prog 28 #[.pointer (some ⟨b, 0, none⟩), .int .i64 t, .int .i64 k] w fun e w' => e = .returned (.tuple #[]) ∧ Wt w' b n s (hearV n f t k) ∧ Only (· = b) w w' := by
  by_cases hk : 0 ≤ k ∧ k < (n : Int)
  · have HC := Lib.hid (wthas_yes H k hk.1 hk.2)
    obtain ⟨m, rfl⟩ : ∃ m : Nat, k = m := ⟨k.toNat, by omega⟩
    have m5 : m < 5 := by have := H.le; omega
    have m5' : (m : Int) < 5 := by omega
    have m0 : (0 : Int) ≤ (m : Int) := by omega
    obtain ⟨c2, z2⟩ := H.heard m5
    have HE := Lib.hid ((H.set m (max (f m) t.toNat)).drew)
    have HO := Lib.hid ((Only.set b (2 + m) w (.int .i64 ((max (f m) t.toNat : Nat) : Int))).drew)
    have hv : hearV n f t (m : Int) = upF f m (max (f m) t.toNat) := by
      unfold hearV
      rw [if_pos hk, show ((m : Int)).toNat = m by omega]
    rw [hv]
    clear hv
    by_cases hm : ((f m : Nat) : Int) < t
    · rw [show max (f m) t.toNat = t.toNat by omega] at HE HO ⊢
      have e1 : ((t.toNat : Nat) : Int) = t := by omega
      rw [e1] at HE HO
      generalize f m = fk at *
      clear hk m5 H e1
      go_enter Try.func28, Try.ntmps28
      go_wp2_with fail
      refine HC.out.mono ?_
      rintro e w1 ⟨rfl, rfl⟩
      go_wp2_with fail
      go_region
      go_wp2
      go_returns
      exact ⟨rfl, HE.out, HO.out⟩
    · rw [show max (f m) t.toNat = f m by omega] at HE HO ⊢
      generalize f m = fk at *
      clear hk m5 H
      go_enter Try.func28, Try.ntmps28
      go_wp2_with fail
      refine HC.out.mono ?_
      rintro e w1 ⟨rfl, rfl⟩
      go_wp2_with fail
      go_region
      go_wp2
      go_returns
      exact ⟨rfl, HE.out, HO.out⟩
  · have HC := Lib.hid (wthas_no H k hk)
    have hv : hearV n f t k = f := by unfold hearV; rw [if_neg hk]
    rw [hv]
    have H' := Lib.hid H
    clear hk H hv
    go_enter Try.func28, Try.ntmps28
    go_wp2_with fail
    refine HC.out.mono ?_
    rintro e w1 ⟨rfl, rfl⟩
    go_wp2
    go_returns
    exact ⟨rfl, H'.out, .refl _ _⟩
set_option maxHeartbeats 400000 in
theorem wtheard_nil (t k : Int) (w : World) :
    Calls Try.prog 28 #[.pointer none, .int .i64 t, .int .i64 k] w fun e w' => e = .returned (.tuple #[]) ∧ w = w' := by
  have HC := Lib.hid (wthas_nil k w)
  go_enter Try.func28, Try.ntmps28
  go_wp2_with fail
  refine HC.out.mono ?_
  rintro e w1 ⟨rfl, rfl⟩
  go_wp2
  go_returns
  exact ⟨rfl, rfl⟩

/-! ### New -/
/-- May a watch be? -/
def mayW (n s t : Int) : Bool := decide ((1 ≤ n ∧ n ≤ 5) ∧ (0 ≤ s ∧ s < n) ∧ 0 ≤ t ∧ t ≤ 1099511627776)
/-- Those below k were heard at t. -/
def wtOf (t k : Nat) : Nat → Nat := fun j => if j < k then t else 0
theorem wtOf_zero (t : Nat) : wtOf t 0 = fun _ => 0 := by funext j; simp [wtOf]
theorem wtOf_step (t k : Nat) : upF (wtOf t k) k t = wtOf t (k + 1) := by
  funext j
  unfold upF wtOf
  rcases Nat.lt_trichotomy j k with h | h | h
  · rw [if_neg (by omega), if_pos h, if_pos (by omega)]
  · subst h
    rw [if_pos rfl, if_pos (by omega)]
  · rw [if_neg (by omega), if_neg (by omega), if_neg (by omega)]
theorem wt_fresh (w : World) (n s t : Nat) (h0 : 0 < n) (h5 : n ≤ 5) : Wt (w.alloc (.cells #[.int .i64 n, .int .i64 s, .int .i64 0, .int .i64 0, .int .i64 0, .int .i64 0, .int .i64 0] 85)) w.heap.size n s (wtOf t 0) := by
  rw [wtOf_zero]
  exact ⟨heap_alloc_new w _, h0, h5⟩

set_option maxHeartbeats 800000 in
theorem wtnew_no (n s t : Int) (w : World) (hn : mayW n s t = false) : Calls Try.prog 25 #[.int .i64 n, .int .i64 s, .int .i64 t] w fun e w' => e = .returned (.tuple #[.pointer none, .int .i64 1]) ∧ w = w' := by
  have hn' := of_decide_eq_false hn
  by_cases h : n < 1
  · clear hn hn'
    go_enter Try.func25, Try.ntmps25
    go_wp2
    go_returns
    exact ⟨rfl, rfl⟩
  · by_cases h9 : 5 < n
    · clear hn hn'
      go_enter Try.func25, Try.ntmps25
      go_wp2
      go_returns
      exact ⟨rfl, rfl⟩
    · by_cases hs0 : s < 0
      · clear hn hn'
        go_enter Try.func25, Try.ntmps25
        go_wp2
        go_returns
        exact ⟨rfl, rfl⟩
      · by_cases hs1 : n ≤ s
        · clear hn hn'
          go_enter Try.func25, Try.ntmps25
          go_wp2
          go_returns
          exact ⟨rfl, rfl⟩
        · by_cases ht : t < 0
          · clear hn hn'
            go_enter Try.func25, Try.ntmps25
            go_wp2
            go_returns
            exact ⟨rfl, rfl⟩
          · have hm : 1099511627776 < t := by omega
            clear hn hn'
            go_enter Try.func25, Try.ntmps25
            go_wp2
            go_returns
            exact ⟨rfl, rfl⟩

set_option maxRecDepth 100000 in
set_option maxHeartbeats 2000000 in
theorem wtnew_yes (n s t : Nat) (w : World) (h0 : 0 < n) (h5 : n ≤ 5) (hs : s < n) (ht : t ≤ 1099511627776) : Calls Try.prog 25 #[.int .i64 n, .int .i64 s, .int .i64 t] w fun e w' => e = .returned (.tuple #[.pointer (some ⟨w.heap.size, 0, none⟩), .int .i64 0]) ∧ Wt w' w.heap.size n s (wtOf t n) ∧ Below w.heap.size w w' := by
  have G0 := Lib.hid (wt_fresh w n s t h0 h5)
  have B0 : Hid (Below w.heap.size w (w.alloc (.cells #[.int .i64 n, .int .i64 s, .int .i64 0, .int .i64 0, .int .i64 0, .int .i64 0, .int .i64 0] 85))) := (Below.refl _ _).alloc (Nat.le_refl _) _
  have a1 : ¬ (n : Int) < 1 := by omega
  have a5 : ¬ 5 < (n : Int) := by omega
  have s0 : ¬ (s : Int) < 0 := by omega
  have s1 : ¬ (n : Int) ≤ (s : Int) := by omega
  have t0 : ¬ (t : Int) < 0 := by omega
  have t1 : ¬ 1099511627776 < (t : Int) := by omega
  have H5 := Lib.hid h5
  clear h0 h5 ht hs
  go_enter Try.func25, Try.ntmps25
  go_wp2_with fail
  go_loopw [38] (fun s38 wr => ∃ k : Nat, k ≤ n ∧ s38 = .int .i64 k ∧ Hid (Wt wr w.heap.size n s (wtOf t k) ∧ Below w.heap.size w wr)) (fun s38 _ => n - (intOf s38).toNat)
  case atStart => exact ⟨0, Nat.zero_le _, rfl, G0.out, B0.out⟩
  case round =>
    obtain ⟨k, hk, rfl, HK⟩ := hrel
    have k5 := H5.out
    by_cases hlt : k < n
    · have k1 : (k : Int) < (n : Int) := by omega
      have k50 : (k : Int) < 5 := by omega
      have k0 : (0 : Int) ≤ (k : Int) := by omega
      obtain ⟨c2, z2⟩ := HK.out.1.heard (j := k) (by omega)
      have HW := Lib.hid (HK.out.1.set k t)
      have HB : Hid (Below w.heap.size w (wr.setCell ⟨w.heap.size, 2 + k, none⟩ (.int .i64 (t : Nat)))) := HK.out.2.setCell (p := ⟨w.heap.size, 2 + k, none⟩) (Nat.le_refl _) _
      go_wp2
      go_roundw
      case rel => exact ⟨k + 1, by omega, by go_num, by rw [← wtOf_step]; exact HW.out, HB.out⟩
      case measure => simp [intOf]; omega
    · have hle : ¬ (k : Int) < (n : Int) := by omega
      obtain rfl : k = n := by omega
      go_wp2
      go_returns
      exact ⟨rfl, HK.out.1, HK.out.2⟩
end Go.Proofs.Ytomjlhmkmihbeaa
