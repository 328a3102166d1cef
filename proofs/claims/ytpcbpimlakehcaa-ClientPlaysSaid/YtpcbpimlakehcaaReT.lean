/-
  WHOM TO ASK, by contract; TOLD: what casebooklaw20.told asks holds. No condition but that numbers are of their kind.
-/
import Derived.Test.YtpcbpimlakehcaaRe
import Derived.Deep.DeepCutAuto
import Derived.BigRegion
namespace Go.Proofs.Ytpcbpimlakehcaa
open Go.RowKit

theorem max_nat (t : Nat) : (if (t : Int) < 0 then (0 : Int) else (t : Int)) = (t : Int) := by rw [if_neg (by omega)]

set_option maxHeartbeats 400000 in
theorem retarget_none (ep : Int) (a : Option Addr) (l c : Nat) (n t : Int) (wr : Bool) (w : World) (hn : n < 1) :
    Calls Try.prog 78 #[.agg #[.int .i64 ep, .slice a l c], .int .i64 n, .int .i64 t, .bool wr] w fun e w' => e = .returned (.int .i64 (-1)) ∧ Below w.heap.size w w' := by
  go_enter Try.func78, Try.ntmps78
  go_wp2
  go_returns
  exact ⟨rfl, by go_grown⟩

theorem near_far {t : Nat} (h : 3 ≤ t) : nearV 1 2 (t : Int) = 2 := by unfold nearV; (repeat' split) <;> omega
theorem near_two {t : Nat} (h : 1 ≤ t) (h2 : t ≤ 2) : nearV 1 2 (t : Int) = (t : Int) := by unfold nearV; (repeat' split) <;> omega
/-- The box of the chain, and the closure's two behind it. -/
def boxC (w : World) (ep : Int) (v : Value) : World := ((w.alloc (.cells #[.int .i64 ep, v] 24)).alloc (.cells #[.int .i64 1] 3)).alloc (.cells #[.int .i64 2] 3)
theorem boxC_bnd (w : World) (ep : Int) (v : Value) : Bnd (boxC w ep v) (w.heap.size + 1) 1 2 := by
  have h := Bnd.new (w.alloc (.cells #[.int .i64 ep, v] 24)) 1 2 (by decide)
  rwa [World.size_alloc] at h
theorem boxC_bel (w : World) (ep : Int) (v : Value) : Below w.heap.size w (boxC w ep v) := (((Below.refl _ w).alloc (Nat.le_refl _) _).alloc (by simp) _).alloc (by simp; omega) _
theorem boxC_cell (w : World) (ep : Int) (v : Value) : (boxC w ep v).cell? ⟨w.heap.size, 1, none⟩ = some v := by
  have h1 := heap_alloc_new w (.cells #[.int .i64 ep, v] 24)
  have h2 : (boxC w ep v).heap[w.heap.size]? = some (.cells #[.int .i64 ep, v] 24 (0, 0)) := (((((Below.refl _ _).alloc (Nat.le_refl _) _).alloc (by simp) _).block w.heap.size (by simp))).trans h1
  simp [World.cell?, h2]

set_option maxRecDepth 100000 in
set_option maxHeartbeats 1000000 in
theorem retarget_far (ep : Int) (a : Option Addr) (l c : Nat) (n t : Nat) (wr : Bool) (w : World) (hn1 : 1 ≤ n) (hn2 : n ≤ 1000) (ht : 3 ≤ t) (ht2 : t ≤ 100000) :
    Calls Try.prog 78 #[.agg #[.int .i64 ep, .slice a l c], .int .i64 n, .int .i64 t, .bool wr] w fun e w' => e = .returned (.int .i64 ((t % n : Nat) : Int)) ∧ Below w.heap.size w w' := by
  have HN := Lib.hid (boxC_bel w ep (.slice a l c))
  have HW : Hid (Calls Try.prog 63 #[.int .i64 1, .int .i64 2] (w.alloc (.cells #[.int .i64 ep, .slice a l c] 24)) fun e w' => e = .returned (.func (.func 82) #[] #[.pointer (some ⟨w.heap.size + 1, 0, none⟩), .pointer (some ⟨w.heap.size + 2, 0, none⟩)]) ∧ w' = boxC w ep (.slice a l c)) :=
    (rewithin_any 1 2 _).mono fun e w' ⟨he, hw⟩ => ⟨by rw [he, World.size_alloc], hw⟩
  have HC := Lib.hid ((boxC_bnd w ep (.slice a l c)).call t 2 (near_far ht))
  have n0 : ¬ (n : Int) < 1 := by omega
  have n1 : ¬ (n : Int) = 0 := by omega
  have t3 : (3 : Int) ≤ (t : Int) := by omega
  have t0 : ¬ (t : Int) < 0 := by omega
  have HR : Hid ((t : Int).tmod (n : Int) = ((t % n : Nat) : Int)) := by show _ = _; rfl
  generalize boxC w ep (.slice a l c) = w2 at HN HW HC
  clear hn1 hn2 ht ht2
  go_enter Try.func78, Try.ntmps78
  go_wp2_with fail
  refine HW.out.mono ?_
  rintro e w1 ⟨rfl, rfl⟩
  go_wp2_with fail
  refine HC.out.mono ?_
  rintro e w1 ⟨rfl, rfl⟩
  go_wp2
  go_returns
  exact ⟨by first | rfl | (simp; done), HN.out⟩

set_option maxRecDepth 100000 in
set_option maxHeartbeats 1000000 in
theorem retarget_two (ep : Int) (a : Option Addr) (l c : Nat) (L : List Int) (n t : Nat) (wr : Bool) (w : World) (hl : L.length = l) (hI : Ints w w.heap.size (.slice a l c) L) (hn1 : 1 ≤ n) (hn2 : n ≤ 1000) (ht : 1 ≤ t) (ht2 : t ≤ 2) (hM : ¬ mayAskV L n) :
    Calls Try.prog 78 #[.agg #[.int .i64 ep, .slice a l c], .int .i64 n, .int .i64 t, .bool wr] w fun e w' => e = .returned (.int .i64 ((t % n : Nat) : Int)) ∧ Below w.heap.size w w' := by
  have HN := Lib.hid (boxC_bel w ep (.slice a l c))
  have HW : Hid (Calls Try.prog 63 #[.int .i64 1, .int .i64 2] (w.alloc (.cells #[.int .i64 ep, .slice a l c] 24)) fun e w' => e = .returned (.func (.func 82) #[] #[.pointer (some ⟨w.heap.size + 1, 0, none⟩), .pointer (some ⟨w.heap.size + 2, 0, none⟩)]) ∧ w' = boxC w ep (.slice a l c)) :=
    (rewithin_any 1 2 _).mono fun e w' ⟨he, hw⟩ => ⟨by rw [he, World.size_alloc], hw⟩
  have HC := Lib.hid ((boxC_bnd w ep (.slice a l c)).call t t (near_two ht ht2))
  have c0 := boxC_cell w ep (.slice a l c)
  have hI2 : Ints (boxC w ep (.slice a l c)) (boxC w ep (.slice a l c)).heap.size (.slice a l c) L := (hI.keep HN.out).mono HN.out.size
  have HMA := Lib.hid (remayask_r a l c L n _ hl hI2 (by omega) (by omega) false (show _ = _ from decide_eq_false hM))
  have hlt0 := lt_of_block (boxC_bnd w ep (.slice a l c)).lo
  have n0 : ¬ (n : Int) < 1 := by omega
  have n1 : ¬ (n : Int) = 0 := by omega
  have t0 : ¬ (t : Int) < 0 := by omega
  generalize boxC w ep (.slice a l c) = w2 at *
  clear hn1 hn2 ht ht2 hI
  go_enter Try.func78, Try.ntmps78
  go_wp2_with fail
  refine HW.out.mono ?_
  rintro e w1 ⟨rfl, rfl⟩
  go_wp2_with fail
  refine HC.out.mono ?_
  rintro e w1 ⟨rfl, rfl⟩
  go_wp2_with fail
  refine HMA.out.mono ?_
  rintro e w3 ⟨rfl, B3⟩
  have HB := Lib.hid (HN.out.trans (B3.mono HN.out.size))
  clear B3 c0
  go_wp2
  go_returns
  exact ⟨by first | rfl | (simp; done), HB.out⟩

set_option maxRecDepth 100000 in
set_option maxHeartbeats 1000000 in
theorem retarget_head (ep : Int) (a : Option Addr) (l c : Nat) (L : List Int) (n t : Nat)  (w : World) (hl : L.length = l) (hI : Ints w w.heap.size (.slice a l c) L) (hn1 : 1 ≤ n) (hn2 : n ≤ 1000) (ht : 1 ≤ t) (ht2 : t ≤ 2) (hM : mayAskV L n) :
    Calls Try.prog 78 #[.agg #[.int .i64 ep, .slice a l c], .int .i64 n, .int .i64 t, .bool true] w fun e w' => e = .returned (.int .i64 (L.getD 0 0)) ∧ Below w.heap.size w w' := by
  have HN := Lib.hid (boxC_bel w ep (.slice a l c))
  have HW : Hid (Calls Try.prog 63 #[.int .i64 1, .int .i64 2] (w.alloc (.cells #[.int .i64 ep, .slice a l c] 24)) fun e w' => e = .returned (.func (.func 82) #[] #[.pointer (some ⟨w.heap.size + 1, 0, none⟩), .pointer (some ⟨w.heap.size + 2, 0, none⟩)]) ∧ w' = boxC w ep (.slice a l c)) :=
    (rewithin_any 1 2 _).mono fun e w' ⟨he, hw⟩ => ⟨by rw [he, World.size_alloc], hw⟩
  have HC := Lib.hid ((boxC_bnd w ep (.slice a l c)).call t t (near_two ht ht2))
  have c0 := boxC_cell w ep (.slice a l c)
  have hI2 : Ints (boxC w ep (.slice a l c)) (boxC w ep (.slice a l c)).heap.size (.slice a l c) L := (hI.keep HN.out).mono HN.out.size
  have HMA := Lib.hid (remayask_r a l c L n _ hl hI2 (by omega) (by omega) true (show _ = _ from decide_eq_true hM))
  have hlt0 := lt_of_block (boxC_bnd w ep (.slice a l c)).lo
  have n0 : ¬ (n : Int) < 1 := by omega
  have n1 : ¬ (n : Int) = 0 := by omega
  have t0 : ¬ (t : Int) < 0 := by omega
  generalize boxC w ep (.slice a l c) = w2 at *
  have hne := hM.1
  obtain ⟨ao', cap', he, hcap, hmax, _, hc⟩ := hI2
  simp only [Value.slice.injEq] at he
  obtain ⟨rfl, -, rfl⟩ := he
  obtain ⟨b, off, rfl, hb, hc⟩ := hc hne
  have hpos : 0 < l := by rw [← hl]; exact List.length_pos_iff.2 hne
  have hpos1 : (0 : Int) < (l : Int) := by omega
  have c1 := hc 0 (by rw [hl]; omega)
  rw [Nat.add_zero] at c1
  generalize L.getD 0 0 = x at c1 ⊢
  clear hc hcap hmax hne hI hM hpos hl
  clear hn1 hn2 ht ht2
  go_enter Try.func78, Try.ntmps78
  go_wp2_with fail
  refine HW.out.mono ?_
  rintro e w1 ⟨rfl, rfl⟩
  go_wp2_with fail
  refine HC.out.mono ?_
  rintro e w1 ⟨rfl, rfl⟩
  go_wp2_with fail
  refine HMA.out.mono ?_
  rintro e w3 ⟨rfl, B3⟩
  have HB := Lib.hid (HN.out.trans (B3.mono HN.out.size))
  have d0 := (B3.cell (p := ⟨w.heap.size, 1, none⟩) (by show w.heap.size < _; omega)).trans c0
  have d1 := (B3.cell (p := ⟨b, off, none⟩) hb).trans c1
  clear B3 c0 c1
  go_wp2
  go_returns
  exact ⟨rfl, HB.out⟩

set_option maxRecDepth 100000 in
set_option maxHeartbeats 1000000 in
theorem retarget_read (ep : Int) (a : Option Addr) (l c : Nat) (L : List Int) (n t : Nat)  (w : World) (hl : L.length = l) (hI : Ints w w.heap.size (.slice a l c) L) (hn1 : 1 ≤ n) (hn2 : n ≤ 1000) (ht : 1 ≤ t) (ht2 : t ≤ 2) (hM : mayAskV L n) :
    Calls Try.prog 78 #[.agg #[.int .i64 ep, .slice a l c], .int .i64 n, .int .i64 t, .bool false] w fun e w' => e = .returned (.int .i64 (L.getD (t % l) 0)) ∧ Below w.heap.size w w' := by
  have HN := Lib.hid (boxC_bel w ep (.slice a l c))
  have HW : Hid (Calls Try.prog 63 #[.int .i64 1, .int .i64 2] (w.alloc (.cells #[.int .i64 ep, .slice a l c] 24)) fun e w' => e = .returned (.func (.func 82) #[] #[.pointer (some ⟨w.heap.size + 1, 0, none⟩), .pointer (some ⟨w.heap.size + 2, 0, none⟩)]) ∧ w' = boxC w ep (.slice a l c)) :=
    (rewithin_any 1 2 _).mono fun e w' ⟨he, hw⟩ => ⟨by rw [he, World.size_alloc], hw⟩
  have HC := Lib.hid ((boxC_bnd w ep (.slice a l c)).call t t (near_two ht ht2))
  have c0 := boxC_cell w ep (.slice a l c)
  have hI2 : Ints (boxC w ep (.slice a l c)) (boxC w ep (.slice a l c)).heap.size (.slice a l c) L := (hI.keep HN.out).mono HN.out.size
  have HMA := Lib.hid (remayask_r a l c L n _ hl hI2 (by omega) (by omega) true (show _ = _ from decide_eq_true hM))
  have hlt0 := lt_of_block (boxC_bnd w ep (.slice a l c)).lo
  have n0 : ¬ (n : Int) < 1 := by omega
  have n1 : ¬ (n : Int) = 0 := by omega
  have t0 : ¬ (t : Int) < 0 := by omega
  generalize boxC w ep (.slice a l c) = w2 at *
  have hne := hM.1
  obtain ⟨ao', cap', he, hcap, hmax, _, hc⟩ := hI2
  simp only [Value.slice.injEq] at he
  obtain ⟨rfl, -, rfl⟩ := he
  obtain ⟨b, off, rfl, hb, hc⟩ := hc hne
  have hpos : 0 < l := by rw [← hl]; exact List.length_pos_iff.2 hne
  have hpos1 : (0 : Int) < (l : Int) := by omega
  have htl : t % l < l := Nat.mod_lt _ hpos
  have c1 := hc (t % l) (by rw [hl]; omega)
  have m0 : ¬ (l : Int) = 0 := by omega
  have m1 : (0 : Int) ≤ ((t % l : Nat) : Int) := by omega
  have m2 : ((t % l : Nat) : Int) < (l : Int) := by omega
  generalize L.getD (t % l) 0 = x at c1 ⊢
  clear hc hcap hmax hne hI hM hpos hl
  clear hn1 hn2 ht ht2
  go_enter Try.func78, Try.ntmps78
  go_wp2_with fail
  refine HW.out.mono ?_
  rintro e w1 ⟨rfl, rfl⟩
  go_wp2_with fail
  refine HC.out.mono ?_
  rintro e w1 ⟨rfl, rfl⟩
  go_wp2_with fail
  refine HMA.out.mono ?_
  rintro e w3 ⟨rfl, B3⟩
  have HB := Lib.hid (HN.out.trans (B3.mono HN.out.size))
  have d0 := (B3.cell (p := ⟨w.heap.size, 1, none⟩) (by show w.heap.size < _; omega)).trans c0
  have d1 := (B3.cell (p := ⟨b, off + t % l, none⟩) hb).trans c1
  clear B3 c0 c1
  go_wp2_with fail
  go_region
  all_goals
    go_wp2
    go_returns
    exact ⟨rfl, by first | exact HB.out | exact HB.out.drew⟩

/-! ### told -/
/-- The law's own chain: its row at q, its box at q + 1. -/
structure C20 (n : Nat) (w : World) (q : Nat) (u : World) : Prop where
  row : u.heap[q]? = some (.cells #[.int .i64 2, .int .i64 0, .int .i64 1] 3 (0, 0))
  box : u.heap[q + 1]? = some (.cells #[.int .i64 1, .slice (some ⟨q, 0, none⟩) 3 3] 24 (0, 0))
  bel : Below n w u
  low : n ≤ w.heap.size
section
variable {n q : Nat} {w u u' : World}
theorem C20.on (h : C20 n w q u) (hb : Below u.heap.size u u') : C20 n w q u' := ⟨(hb.block _ (lt_of_block h.row)).trans h.row, (hb.block _ (lt_of_block h.box)).trans h.box, h.bel.trans (hb.mono (Nat.le_trans h.low h.bel.size)), h.low⟩
theorem C20.ints (h : C20 n w q u) : Ints u u.heap.size (.slice (some ⟨q, 0, none⟩) 3 3) [2, 0, 1] := by
  refine ⟨some ⟨q, 0, none⟩, 3, rfl, by decide, by decide, (fun e => by cases e), fun _ => ⟨q, 0, rfl, lt_of_block h.row, fun j hj => ?_⟩⟩
  have hr := h.row
  match j, hj with
  | 0, _ => simp [World.cell?, hr]
  | 1, _ => simp [World.cell?, hr]
  | 2, _ => simp [World.cell?, hr]
theorem C20.cells (h : C20 n w q u) : u.cell? ⟨q + 1, 0, none⟩ = some (.int .i64 1) ∧ u.cell? ⟨q + 1, 1, none⟩ = some (.slice (some ⟨q, 0, none⟩) 3 3) := by
  have hr := h.box
  exact ⟨by simp [World.cell?, hr], by simp [World.cell?, hr]⟩
end
theorem C20.new (w : World) : C20 w.heap.size w w.heap.size ((w.alloc (.cells #[.int .i64 2, .int .i64 0, .int .i64 1] 3)).alloc (.cells #[.int .i64 1, .slice (some ⟨w.heap.size, 0, none⟩) 3 3] 24)) := by
  have h1 := heap_alloc_new w (.cells #[.int .i64 2, .int .i64 0, .int .i64 1] 3)
  have h2 := heap_alloc_new (w.alloc (.cells #[.int .i64 2, .int .i64 0, .int .i64 1] 3)) (.cells #[.int .i64 1, .slice (some ⟨w.heap.size, 0, none⟩) 3 3] 24)
  rw [World.size_alloc] at h2
  exact ⟨(((Below.refl _ _).alloc (Nat.le_refl _) _).block _ (by simp)).trans h1, h2, ((Below.refl _ w).alloc (Nat.le_refl _) _).alloc (by simp) _, Nat.le_refl _⟩

end Go.Proofs.Ytpcbpimlakehcaa
