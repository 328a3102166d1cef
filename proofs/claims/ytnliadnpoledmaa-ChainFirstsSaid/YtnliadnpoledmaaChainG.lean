/-
  THE FIRST CHAIN, by the program and by the reference; the program's Same. No condition but, of Same, at most a million nodes.
-/
import Derived.Test.YtnliadnpoledmaaChainF
namespace Go.Proofs.Ytnliadnpoledmaa
open Go.RowKit

/-- All numbers below one. -/
def firstL (n : Nat) : List Int := (List.range n).map Int.ofNat
theorem firstL_succ (n : Nat) : firstL (n + 1) = firstL n ++ [(n : Int)] := by simp [firstL, List.range_succ, List.map_append]
theorem firstL_length (n : Nat) : (firstL n).length = n := by simp [firstL]

set_option maxRecDepth 100000 in
set_option maxHeartbeats 4000000 in
theorem chfirst_in (n : Nat) (h1 : 1 ≤ n) (h5 : n ≤ 5) (w : World) :
    Calls Try.prog 8 #[.int .i64 n] w fun e w' => ∃ a c, e = .returned (.tuple #[.agg #[.int .i64 1, .slice a n c], .int .i64 0]) ∧ w'.ownsRow w.heap.size 3 1 (.slice a n c) n (intCells (firstL n)) ∧ Below w.heap.size w w' := by
  obtain ⟨i0, hi, hz0, hz1, hz2⟩ := info_parts info_int12
  have n1 : ¬ ((n : Int) < 1) := by omega
  have n2 : ¬ ((5 : Int) < (n : Int)) := by omega
  go_enter Try.func8, Try.ntmps8
  go_wp2_with fail
  go_loopw [15] (fun s wr => ∃ (k : Nat) (a : Option Addr) (c : Nat), k ≤ n ∧ s = .int .i64 k ∧ Hid (ChT wr w.heap.size 0 (.slice none 0 0) ∧ ChT wr (w.heap.size + 1) 1 (.slice a k c) ∧ wr.ownsRow (w.heap.size + 2) 3 1 (.slice a k c) k (intCells (firstL k)) ∧ Below w.heap.size w wr)) (fun s _ => n - (intOf s).toNat)
  case atStart =>
    refine ⟨0, none, 0, Nat.zero_le _, rfl, ?_, ?_, World.ownsRow_nil _ _ _ _, ?_⟩
    · exact (ChT.fresh w 0 (.slice none 0 0)).keep ((Below.refl _ _).alloc (Nat.le_refl _) _) (by simp)
    · have := ChT.fresh (w.alloc (.cells #[.int .i64 0, .slice none 0 0] 25)) 1 (.slice none 0 0)
      rwa [World.size_alloc] at this
    · exact ((Below.refl _ w).alloc (Nat.le_refl _) _).alloc (by simp) _
  case round =>
    obtain ⟨k, a, c, hk, rfl, HR⟩ := hrel
    obtain ⟨r0, r1, z0, z1⟩ := HR.out.1.cells
    obtain ⟨c0, c1, f0, f1⟩ := HR.out.2.1.cells
    have hsz := HR.out.2.1.lt
    by_cases hlt : k < n
    · have k1 : (k : Int) < (n : Int) := by omega
      go_wp2_with (at_builtin; refine wpList_append_own_src rfl (.tmp 19) (.tmp 21) 22 22 rfl (w.heap.size + 2) 3 i0 (.int .i64 0) 1 8 Try.underlying22 hi hz0 hz1 hz2 rfl _ _ _ rfl (HR.out.2.2.1.alloc _) _ 1 (intCells [(k : Int)]) rfl (csrc1 wr _) ?c3 ?c4 ?c5 ?_)
      case c3 => unfold maxLen; omega
      case c4 => omega
      case c5 => simp; omega
      intro v2 w2 O2 G2
      obtain ⟨a2, c2, rfl⟩ := own_shape O2
      have hown : ∀ y, Value.ownBlock (.slice a k c) = some y → w.heap.size + 2 ≤ y := fun y hy => (HR.out.2.2.1.lt y hy).1
      have hb2 : Below w.heap.size w w2 := (HR.out.2.2.2.alloc (by omega) _).grown G2 (by simp; omega) (fun y hy => by have := hown y hy; omega)
      have q0 : ChT w2 w.heap.size 0 (.slice none 0 0) := (G2.block _ (by simp; omega) (fun e => by have := hown _ e.symm; omega)).trans (HR.out.1.keep ((Below.refl _ wr).alloc (Nat.le_refl _) _) (by omega))
      have q1 : ChT w2 (w.heap.size + 1) 1 (.slice a k c) := (G2.block _ (by simp; omega) (fun e => by have := hown _ e.symm; omega)).trans (HR.out.2.1.keep ((Below.refl _ wr).alloc (Nat.le_refl _) _) (by omega))
      have O2' := Lib.hid O2
      have Q0 := Lib.hid q0
      have Q1 := Lib.hid q1
      have HB2 := Lib.hid hb2
      clear r0 r1 z0 z1 c0 c1 f0 f1 O2 G2 hown q0 hb2
      obtain ⟨c0, c1, f0, f1⟩ := q1.cells
      clear q1
      go_wp2_with fail
      go_roundw
      case rel =>
        have o1 := Only.set (w.heap.size + 1) 1 w2 (.slice a2 (k + 1) c2)
        refine ⟨k + 1, a2, c2, by omega, by go_num, (o1.block _ Q0.out.lt (by omega)).trans Q0.out, ?_, ?_, o1.below HB2.out (fun x hx => by omega) HB2.out.size⟩
        · show _ = _
          rw [heap_setCell_same _ _ _ _ _ _ Q1.out]
          rfl
        · rw [firstL_succ, ← cells_app]
          exact own_only O2'.out o1 (by omega)
      case measure => simp [intOf]; omega
    · obtain rfl : k = n := by omega
      go_wp2_with fail
      obtain ⟨k1, k2⟩ := HR.out.1.stored (ep' := 1) (v' := .slice a k c)
      obtain ⟨e0, e1, _, _⟩ := k1.cells
      unfold chW at e0 e1
      refine bodyPost_ret (v := .tuple #[.agg #[.int .i64 1, .slice a k c], .int .i64 0]) (by simp [results, Try.results8, go_sem, e0, e1]) rfl ⟨a, c, rfl, own_base (own_only HR.out.2.2.1 k2 (by omega)) (by omega), k2.below HR.out.2.2.2 (fun x hx => by omega) HR.out.2.2.2.size⟩

set_option maxRecDepth 100000 in
set_option maxHeartbeats 2000000 in
theorem chfirst_no (n : Int) (h : n < 1 ∨ 5 < n) (w : World) :
    Calls Try.prog 8 #[.int .i64 n] w fun e w' => e = .returned (.tuple #[.agg #[.int .i64 0, .slice none 0 0], .int .i64 1]) ∧ Below w.heap.size w w' := by
  obtain ⟨k1, k2⟩ := (ChT.fresh w 0 (.slice none 0 0)).stored (ep' := 0) (v' := .slice none 0 0)
  obtain ⟨e0, e1, _, _⟩ := k1.cells
  have K2 : Hid (Below w.heap.size w (chW (w.alloc (.cells #[.int .i64 0, .slice none 0 0] 25)) w.heap.size 0 (.slice none 0 0))) := k2.below ((Below.refl _ w).alloc (Nat.le_refl _) _) (fun x hx => by omega) (by simp)
  have E0 := Lib.hid e0
  have E1 := Lib.hid e1
  clear k1 k2 e0 e1
  by_cases h1 : n < 1
  · clear h
    go_enter Try.func8, Try.ntmps8
    go_wp2_with fail
    have e0 := E0.out
    have e1 := E1.out
    unfold chW at e0 e1
    refine bodyPost_ret (v := .tuple #[.agg #[.int .i64 0, .slice none 0 0], .int .i64 1]) (by simp [results, Try.results8, go_sem]) rfl ⟨rfl, by first | exact K2.out | go_grown⟩
  · have h2 : (5 : Int) < n := by omega
    clear h
    go_enter Try.func8, Try.ntmps8
    go_wp2_with fail
    have e0 := E0.out
    have e1 := E1.out
    unfold chW at e0 e1
    refine bodyPost_ret (v := .tuple #[.agg #[.int .i64 0, .slice none 0 0], .int .i64 1]) (by simp [results, Try.results8, go_sem]) rfl ⟨rfl, by first | exact K2.out | go_grown⟩

set_option maxRecDepth 100000 in
set_option maxHeartbeats 4000000 in
theorem rhfirst_in (n : Nat) (h1 : 1 ≤ n) (h5 : n ≤ 5) (w : World) :
    Calls Try.prog 18 #[.int .i64 n] w fun e w' => ∃ a c, e = .returned (.tuple #[.agg #[.int .i64 1, .slice a n c], .int .i64 0]) ∧ w'.ownsRow w.heap.size 3 1 (.slice a n c) n (intCells (firstL n)) ∧ Below w.heap.size w w' := by
  obtain ⟨i0, hi, hz0, hz1, hz2⟩ := info_parts info_int12
  have n1 : ¬ ((n : Int) < 1) := by omega
  have n2 : ¬ ((5 : Int) < (n : Int)) := by omega
  go_enter Try.func18, Try.ntmps18
  go_wp2_with fail
  go_loopw [5] (fun s wr => ∃ (k : Nat) (a : Option Addr) (c : Nat), k ≤ n ∧ s = .int .i64 k ∧ Hid (ChT wr w.heap.size 0 (.slice none 0 0) ∧ ChT wr (w.heap.size + 1) 1 (.slice a k c) ∧ wr.ownsRow (w.heap.size + 2) 3 1 (.slice a k c) k (intCells (firstL k)) ∧ Below w.heap.size w wr)) (fun s _ => n - (intOf s).toNat)
  case atStart =>
    refine ⟨0, none, 0, Nat.zero_le _, rfl, ?_, ?_, World.ownsRow_nil _ _ _ _, ?_⟩
    · exact (ChT.fresh w 0 (.slice none 0 0)).keep ((Below.refl _ _).alloc (Nat.le_refl _) _) (by simp)
    · have := ChT.fresh (w.alloc (.cells #[.int .i64 0, .slice none 0 0] 25)) 1 (.slice none 0 0)
      rwa [World.size_alloc] at this
    · exact ((Below.refl _ w).alloc (Nat.le_refl _) _).alloc (by simp) _
  case round =>
    obtain ⟨k, a, c, hk, rfl, HR⟩ := hrel
    obtain ⟨r0, r1, z0, z1⟩ := HR.out.1.cells
    obtain ⟨c0, c1, f0, f1⟩ := HR.out.2.1.cells
    have hsz := HR.out.2.1.lt
    by_cases hlt : k < n
    · have k1 : (k : Int) < (n : Int) := by omega
      go_wp2_with (at_builtin; refine wpList_append_own_src rfl (.tmp 20) (.tmp 22) 22 22 rfl (w.heap.size + 2) 3 i0 (.int .i64 0) 1 8 Try.underlying22 hi hz0 hz1 hz2 rfl _ _ _ rfl (HR.out.2.2.1.alloc _) _ 1 (intCells [(k : Int)]) rfl (csrc1 wr _) ?c3 ?c4 ?c5 ?_)
      case c3 => unfold maxLen; omega
      case c4 => omega
      case c5 => simp; omega
      intro v2 w2 O2 G2
      obtain ⟨a2, c2, rfl⟩ := own_shape O2
      have hown : ∀ y, Value.ownBlock (.slice a k c) = some y → w.heap.size + 2 ≤ y := fun y hy => (HR.out.2.2.1.lt y hy).1
      have hb2 : Below w.heap.size w w2 := (HR.out.2.2.2.alloc (by omega) _).grown G2 (by simp; omega) (fun y hy => by have := hown y hy; omega)
      have q0 : ChT w2 w.heap.size 0 (.slice none 0 0) := (G2.block _ (by simp; omega) (fun e => by have := hown _ e.symm; omega)).trans (HR.out.1.keep ((Below.refl _ wr).alloc (Nat.le_refl _) _) (by omega))
      have q1 : ChT w2 (w.heap.size + 1) 1 (.slice a k c) := (G2.block _ (by simp; omega) (fun e => by have := hown _ e.symm; omega)).trans (HR.out.2.1.keep ((Below.refl _ wr).alloc (Nat.le_refl _) _) (by omega))
      have O2' := Lib.hid O2
      have Q0 := Lib.hid q0
      have Q1 := Lib.hid q1
      have HB2 := Lib.hid hb2
      clear r0 r1 z0 z1 c0 c1 f0 f1 O2 G2 hown q0 hb2
      obtain ⟨c0, c1, f0, f1⟩ := q1.cells
      clear q1
      go_wp2_with fail
      go_roundw
      case rel =>
        have o1 := Only.set (w.heap.size + 1) 1 w2 (.slice a2 (k + 1) c2)
        refine ⟨k + 1, a2, c2, by omega, by go_num, (o1.block _ Q0.out.lt (by omega)).trans Q0.out, ?_, ?_, o1.below HB2.out (fun x hx => by omega) HB2.out.size⟩
        · show _ = _
          rw [heap_setCell_same _ _ _ _ _ _ Q1.out]
          rfl
        · rw [firstL_succ, ← cells_app]
          exact own_only O2'.out o1 (by omega)
      case measure => simp [intOf]; omega
    · obtain rfl : k = n := by omega
      go_wp2_with fail
      obtain ⟨k1, k2⟩ := HR.out.1.stored (ep' := 1) (v' := .slice a k c)
      obtain ⟨e0, e1, _, _⟩ := k1.cells
      unfold chW at e0 e1
      refine bodyPost_ret (v := .tuple #[.agg #[.int .i64 1, .slice a k c], .int .i64 0]) (by simp [results, Try.results18, go_sem, e0, e1]) rfl ⟨a, c, rfl, own_base (own_only HR.out.2.2.1 k2 (by omega)) (by omega), k2.below HR.out.2.2.2 (fun x hx => by omega) HR.out.2.2.2.size⟩

set_option maxRecDepth 100000 in
set_option maxHeartbeats 2000000 in
theorem rhfirst_no (n : Int) (h : n < 1 ∨ 5 < n) (w : World) :
    Calls Try.prog 18 #[.int .i64 n] w fun e w' => e = .returned (.tuple #[.agg #[.int .i64 0, .slice none 0 0], .int .i64 1]) ∧ Below w.heap.size w w' := by
  obtain ⟨k1, k2⟩ := (ChT.fresh w 0 (.slice none 0 0)).stored (ep' := 0) (v' := .slice none 0 0)
  obtain ⟨e0, e1, _, _⟩ := k1.cells
  have K2 : Hid (Below w.heap.size w (chW (w.alloc (.cells #[.int .i64 0, .slice none 0 0] 25)) w.heap.size 0 (.slice none 0 0))) := k2.below ((Below.refl _ w).alloc (Nat.le_refl _) _) (fun x hx => by omega) (by simp)
  have E0 := Lib.hid e0
  have E1 := Lib.hid e1
  clear k1 k2 e0 e1
  by_cases h1 : n < 1
  · clear h
    go_enter Try.func18, Try.ntmps18
    go_wp2_with fail
    have e0 := E0.out
    have e1 := E1.out
    unfold chW at e0 e1
    refine bodyPost_ret (v := .tuple #[.agg #[.int .i64 0, .slice none 0 0], .int .i64 1]) (by simp [results, Try.results18, go_sem]) rfl ⟨rfl, by first | exact K2.out | go_grown⟩
  · have h2 : (5 : Int) < n := by omega
    clear h
    go_enter Try.func18, Try.ntmps18
    go_wp2_with fail
    have e0 := E0.out
    have e1 := E1.out
    unfold chW at e0 e1
    refine bodyPost_ret (v := .tuple #[.agg #[.int .i64 0, .slice none 0 0], .int .i64 1]) (by simp [results, Try.results18, go_sem]) rfl ⟨rfl, by first | exact K2.out | go_grown⟩

set_option maxHeartbeats 2000000 in
set_option maxRecDepth 100000 in
theorem slequal_same (b1 o1 b2 o2 n c1 c2 : Nat) (L1 L2 : List Int) (w : World) (h1 : L1.length = n) (h2 : L2.length = n) (hm : n ≤ 1000000) (hb1 : b1 < w.heap.size) (hb2 : b2 < w.heap.size)
    (hc1 : ∀ j, j < n → w.cell? ⟨b1, o1 + j, none⟩ = some (.int .i64 (L1.getD j 0))) (hc2 : ∀ j, j < n → w.cell? ⟨b2, o2 + j, none⟩ = some (.int .i64 (L2.getD j 0))) :
    Calls Try.prog 37 #[.slice (some ⟨b1, o1, none⟩) n c1, .slice (some ⟨b2, o2, none⟩) n c2] w fun e w' => e = .returned (.bool (decide (L1 = L2))) ∧ Below w.heap.size w w' := by
  have H1 := Lib.hid hc1
  have H2 := Lib.hid hc2
  have N1 := Lib.hid h1
  have N2 := Lib.hid h2
  obtain ⟨R, hR⟩ : ∃ R, R = decide (L1 = L2) := ⟨_, rfl⟩
  rw [← hR]
  have HR := Lib.hid hR
  clear hc1 hc2 h1 h2 hR
  go_enter Try.func37, Try.ntmps37
  go_wp2
  go_loopw [13] (fun vi wr => ∃ k : Nat, k ≤ n ∧ vi = .int .i64 k ∧ L1.take k = L2.take k ∧ Below w.heap.size w wr) (fun vi _ => n - (intOf vi).toNat)
  case atStart => exact ⟨0, by omega, rfl, rfl, Below.refl _ _⟩
  case round =>
    obtain ⟨k, hk, rfl, heq, hnx⟩ := hrel
    have HQ := Lib.hid heq
    have HB := Lib.hid hnx
    clear heq
    by_cases hlt : k < n
    · obtain ⟨x, hx⟩ : ∃ x, x = L1.getD k 0 := ⟨_, rfl⟩
      obtain ⟨y, hy⟩ : ∃ y, y = L2.getD k 0 := ⟨_, rfl⟩
      have e1 : wr.cell? ⟨b1, o1 + k, none⟩ = some (.int .i64 x) := by rw [hx, ← H1.out k hlt]; exact hnx.cell (p := ⟨b1, o1 + k, none⟩) hb1
      have e2 : wr.cell? ⟨b2, o2 + k, none⟩ = some (.int .i64 y) := by rw [hy, ← H2.out k hlt]; exact hnx.cell (p := ⟨b2, o2 + k, none⟩) hb2
      have T1 : Hid (L1.take (k + 1) = L1.take k ++ [x]) := by show _ = _; rw [hx]; exact take_snoc L1 k (by rw [N1.out]; exact hlt)
      have T2 : Hid (L2.take (k + 1) = L2.take k ++ [y]) := by show _ = _; rw [hy]; exact take_snoc L2 k (by rw [N2.out]; exact hlt)
      clear hx hy hnx
      have i0 : (0 : Int) ≤ (k : Int) := by omega
      have i1 : (k : Int) < (n : Int) := by omega
      by_cases hxy : x = y
      · have hb : (x != y) = false := by simp [hxy]
        subst hxy
        go_wp2
        go_quiet (fail)
        go_wp2
        go_roundw
        case rel => exact ⟨k + 1, by omega, by go_num, by rw [T1.out, T2.out, HQ.out], below_drewN HB.out _⟩
        case measure => simp [intOf]; omega
      · have HF : Hid (R = false) := by
          show _ = _
          rw [HR.out]
          refine decide_eq_false fun h => hxy ?_
          have h1 := T1.out
          rw [h, T2.out] at h1
          have := List.append_cancel_left h1
          simpa using this.symm
        have hb : (x != y) = true := by simp [hxy]
        clear hxy
        go_wp2
        go_quiet (fail)
        go_wp2
        go_returns
        exact ⟨ret_bool HF.out.symm, below_drewN HB.out _⟩
    · have HF : Hid (R = true) := by
        show _ = _
        rw [HR.out]
        refine decide_eq_true ?_
        have := HQ.out
        rw [List.take_of_length_le (by rw [N1.out]; omega), List.take_of_length_le (by rw [N2.out]; omega)] at this
        exact this
      clear hnx
      go_wp2
      go_returns
      exact ⟨ret_bool HF.out.symm, HB.out⟩

set_option maxHeartbeats 1000000 in
theorem slequal_r (v1 v2 : Value) (L1 L2 : List Int) (B : Nat) (w : World) (h1 : Ints w B v1 L1) (h2 : Ints w B v2 L2) (hB : B ≤ w.heap.size) (hm : L1.length ≤ 1000000) :
    Calls Try.prog 37 #[v1, v2] w fun e w' => e = .returned (.bool (decide (L1 = L2))) ∧ Below w.heap.size w w' := by
  obtain ⟨a1, c1, rfl, _, m1, _, g1⟩ := h1
  obtain ⟨a2, c2, rfl, _, m2, _, g2⟩ := h2
  by_cases he : L1.length = L2.length
  · by_cases h0 : L1.length = 0
    · have e1 : L1 = [] := List.eq_nil_of_length_eq_zero h0
      have e2 : L2 = [] := List.eq_nil_of_length_eq_zero (by omega)
      subst e1 e2
      clear g1 g2
      go_enter Try.func37, Try.ntmps37
      go_wp2
      refine wp_loop_rounds 1 ?_
      rw [rounds_succ]
      go_wp2
      go_returns
      exact ⟨rfl, Below.refl _ _⟩
    · obtain ⟨b1, o1, rfl, hb1, hc1⟩ := g1 (by intro h; rw [h] at h0; simp at h0)
      obtain ⟨b2, o2, rfl, hb2, hc2⟩ := g2 (by intro h; rw [h] at he; simp at he; exact h0 (by simp [he]))
      rw [← he] at hc2 ⊢
      exact slequal_same b1 o1 b2 o2 L1.length c1 c2 L1 L2 w rfl he.symm hm (by omega) (by omega) hc1 hc2
  · have hr : decide (L1 = L2) = false := decide_eq_false fun h => he (by rw [h])
    rw [hr]
    obtain ⟨n1, hn1⟩ : ∃ n, n = L1.length := ⟨_, rfl⟩
    obtain ⟨n2, hn2⟩ : ∃ n, n = L2.length := ⟨_, rfl⟩
    rw [← hn1, ← hn2]
    have hne : ((n1 : Int) != (n2 : Int)) = true := by simp; omega
    clear g1 g2 hr hn1 hn2 he hm
    go_enter Try.func37, Try.ntmps37
    go_wp2
    go_returns
    exact ⟨rfl, Below.refl _ _⟩

set_option maxHeartbeats 1000000 in
theorem chsame_r (e1 e2 : Int) (v1 v2 : Value) (L1 L2 : List Int) (B : Nat) (w : World) (h1 : Ints w B v1 L1) (h2 : Ints w B v2 L2) (hB : B ≤ w.heap.size) (hm : L1.length ≤ 1000000) :
    Calls Try.prog 21 #[.agg #[.int .i64 e1, v1], .agg #[.int .i64 e2, v2]] w fun e w' => e = .returned (.bool (decide (e1 = e2 ∧ L1 = L2))) ∧ Below w.heap.size w w' := by
  have HI : Hid (∀ o1 o2, Calls Try.prog 37 #[v1, v2] ((w.alloc o1).alloc o2) fun e w' => e = .returned (.bool (decide (L1 = L2))) ∧ Below ((w.alloc o1).alloc o2).heap.size ((w.alloc o1).alloc o2) w') := by
    intro o1 o2
    have hb : Below w.heap.size w ((w.alloc o1).alloc o2) := ((Below.refl _ w).alloc (Nat.le_refl _) o1).alloc (by simp) o2
    exact slequal_r v1 v2 L1 L2 B _ (h1.keep (hb.mono hB)) (h2.keep (hb.mono hB)) (by simp; omega) hm
  obtain ⟨a1, c1, rfl, _⟩ := h1
  obtain ⟨a2, c2, rfl, _⟩ := h2
  obtain ⟨R, hR⟩ : ∃ R, R = decide (L1 = L2) := ⟨_, rfl⟩
  rw [← hR] at HI
  obtain ⟨n1, hn1⟩ : ∃ n, n = L1.length := ⟨_, rfl⟩
  obtain ⟨n2, hn2⟩ : ∃ n, n = L2.length := ⟨_, rfl⟩
  rw [← hn1, ← hn2] at HI ⊢
  by_cases he : e1 = e2
  · subst he
    have hr : decide (e1 = e1 ∧ L1 = L2) = R := by rw [hR, decide_eq_decide]; simp
    rw [hr]
    clear hR hr hn1 hn2 hm
    go_enter Try.func21, Try.ntmps21
    go_wp2_with fail
    refine (HI.out _ _).mono ?_
    rintro e w1 ⟨rfl, B1⟩
    have C1 : Hid (Below w.heap.size w w1) := (((Below.refl _ w).alloc (Nat.le_refl _) _).alloc (by simp) _).trans (B1.mono (by simp; omega))
    clear B1
    go_wp2
    go_returns
    exact ⟨rfl, C1.out⟩
  · have hr : decide (e1 = e2 ∧ L1 = L2) = false := decide_eq_false fun h => he h.1
    rw [hr]
    have hb : (e1 == e2) = false := beq_eq_false_iff_ne.2 he
    clear hR hr hn1 hn2 hm he
    go_enter Try.func21, Try.ntmps21
    go_wp2
    go_returns
    exact ⟨rfl, ((Below.refl _ w).alloc (Nat.le_refl _) _).alloc (by simp) _⟩
end Go.Proofs.Ytnliadnpoledmaa
