/-
  THE PROGRAM's behind; slices.Grow of nil, slices.Concat of two rows of ints. Of rows of at most a thousand.
-/
import Derived.Test.YtnliadnpoledmaaChainC
import Derived.Test.YtnliadnpoledmaaClockW
import Derived.Lib.AppendZeros
namespace Go.Proofs.Ytnliadnpoledmaa
open Go.RowKit

/-- A chain's block, BY ITS TYPE. -/
def ChT (w : World) (b : Nat) (ep : Int) (v : Value) : Prop := w.heap[b]? = some (.cells #[.int .i64 ep, v] 25 (0, 0))
theorem ChT.chB {w : World} {b : Nat} {ep : Int} {v : Value} (h : ChT w b ep v) : ChB w b ep v := ⟨_, h⟩
theorem ChT.lt {w : World} {b : Nat} {ep : Int} {v : Value} (h : ChT w b ep v) : b < w.heap.size := lt_of_block h
theorem ChT.keep {w w' : World} {b B : Nat} {ep : Int} {v : Value} (h : ChT w b ep v) (hb : Below B w w') (hB : b < B) : ChT w' b ep v := (hb.block b hB).trans h
theorem ChT.fresh (w : World) (ep : Int) (v : Value) : ChT (w.alloc (.cells #[.int .i64 ep, v] 25)) w.heap.size ep v := heap_alloc_new w _
theorem ChT.cells {w : World} {b : Nat} {ep : Int} {v : Value} (h : ChT w b ep v) : w.cell? ⟨b, 0, none⟩ = some (.int .i64 ep) ∧ w.cell? ⟨b, 1, none⟩ = some v ∧ w.frozen? ⟨b, 0, none⟩ = false ∧ w.frozen? ⟨b, 1, none⟩ = false := by
  have h' : w.heap[b]? = some (.cells #[.int .i64 ep, v] 25 (0, 0)) := h
  refine ⟨?_, ?_, ?_, ?_⟩ <;> simp [World.cell?, World.frozen?, h']
/-- A chain stored whole. -/
def chW (w : World) (b : Nat) (ep : Int) (v : Value) : World := (w.setCell ⟨b, 0, none⟩ (.int .i64 ep)).setCell ⟨b, 1, none⟩ v
theorem ChT.stored {w : World} {b : Nat} {ep ep' : Int} {v v' : Value} (h : ChT w b ep v) : ChT (chW w b ep' v') b ep' v' ∧ Only (· = b) w (chW w b ep' v') := by
  have h0 : (w.setCell ⟨b, 0, none⟩ (.int .i64 ep')).heap[b]? = some (.cells #[.int .i64 ep', v] 25 (0, 0)) := by rw [heap_setCell_same _ _ _ _ _ _ h]; rfl
  refine ⟨?_, (Only.set b 0 w _).trans (Only.set b 1 _ _)⟩
  show (chW w b ep' v').heap[b]? = _
  unfold chW
  rw [heap_setCell_same _ _ _ _ _ _ h0]
  rfl

set_option maxRecDepth 100000 in
set_option maxHeartbeats 2000000 in
theorem chbehind_yes (ep : Int) (v0 v : Value) (L : List Int) (B : Nat) (w : World) (hI : Ints w B v L) (hB : B ≤ w.heap.size) (he : wrap64 (ep + 1) = ep + 1) (hm : ChainV.may ⟨ep + 1, L⟩) :
    Calls Try.prog 29 #[.agg #[.int .i64 ep, v0], v] w fun e w' => e = .returned (.tuple #[.agg #[.int .i64 (ep + 1), v], .int .i64 0]) ∧ Below w.heap.size w w' := by
  obtain ⟨a0, c0, rfl⟩ : ∃ a c, v = .slice a L.length c := by obtain ⟨a, c, h, _⟩ := hI; exact ⟨a, c, h⟩
  obtain ⟨u0, hu0⟩ : ∃ u0, u0 = ((w.alloc (.cells #[.int .i64 ep, v0] 25)).alloc (.cells #[.int .i64 0, .slice none 0 0] 25)).alloc (.cells #[.int .i64 (ep + 1), .slice a0 L.length c0] 25) := ⟨_, rfl⟩
  have hb0 : Below w.heap.size w u0 := by rw [hu0]; exact (((Below.refl _ w).alloc (Nat.le_refl _) _).alloc (by simp) _).alloc (by simp; omega) _
  have hs0 : u0.heap.size = w.heap.size + 3 := by rw [hu0]; simp
  have r0 : ChT u0 (w.heap.size + 1) 0 (.slice none 0 0) := by
    rw [hu0]
    have := ChT.fresh (w.alloc (.cells #[.int .i64 ep, v0] 25)) 0 (.slice none 0 0)
    rw [World.size_alloc] at this
    exact this.keep ((Below.refl _ _).alloc (Nat.le_refl _) _) (by simp)
  have n0 : ChT u0 (w.heap.size + 2) (ep + 1) (.slice a0 L.length c0) := by
    rw [hu0]
    have := ChT.fresh ((w.alloc (.cells #[.int .i64 ep, v0] 25)).alloc (.cells #[.int .i64 0, .slice none 0 0] 25)) (ep + 1) (.slice a0 L.length c0)
    rwa [World.size_alloc, World.size_alloc] at this
  have HM := Lib.hid (maychain_r (ep + 1) (.slice a0 L.length c0) L B u0 (hI.keep (hb0.mono hB)) (by omega) true (decide_eq_true hm).symm)
  have HU := Lib.hid hu0
  clear hI hm hu0
  go_enter Try.func29, Try.ntmps29
  go_wp2_with fail
  rw [← HU.out]
  refine HM.out.mono ?_
  rintro e w1 ⟨rfl, B1⟩
  have hs1 := B1.size
  have R1 := Lib.hid (r0.keep B1 r0.lt)
  have N1 := Lib.hid (n0.keep B1 n0.lt)
  have C1 : Hid (Below w.heap.size w w1) := hb0.trans (B1.mono (by omega))
  clear B1 r0 n0 hb0 HM HU
  obtain ⟨c0', c1', f0, f1⟩ := R1.out.cells
  obtain ⟨d0, d1, _, _⟩ := N1.out.cells
  go_wp2
  obtain ⟨k1, k2⟩ := R1.out.stored (ep' := ep + 1) (v' := .slice a0 L.length c0)
  obtain ⟨e0, e1, _, _⟩ := k1.cells
  unfold chW at e0 e1
  refine bodyPost_ret (v := .tuple #[.agg #[.int .i64 (ep + 1), .slice a0 L.length c0], .int .i64 0]) (by simp [results, Try.results29, go_sem, e0, e1]) rfl ⟨rfl, k2.below C1.out (fun x hx => by omega) (by omega)⟩

set_option maxRecDepth 100000 in
set_option maxHeartbeats 2000000 in
theorem chbehind_no (ep : Int) (v0 v : Value) (L : List Int) (B : Nat) (w : World) (hI : Ints w B v L) (hB : B ≤ w.heap.size) (he : wrap64 (ep + 1) = ep + 1) (hm : ¬ ChainV.may ⟨ep + 1, L⟩) :
    Calls Try.prog 29 #[.agg #[.int .i64 ep, v0], v] w fun e w' => e = .returned (.tuple #[.agg #[.int .i64 0, .slice none 0 0], .int .i64 1]) ∧ Below w.heap.size w w' := by
  obtain ⟨a0, c0, rfl⟩ : ∃ a c, v = .slice a L.length c := by obtain ⟨a, c, h, _⟩ := hI; exact ⟨a, c, h⟩
  obtain ⟨u0, hu0⟩ : ∃ u0, u0 = ((w.alloc (.cells #[.int .i64 ep, v0] 25)).alloc (.cells #[.int .i64 0, .slice none 0 0] 25)).alloc (.cells #[.int .i64 (ep + 1), .slice a0 L.length c0] 25) := ⟨_, rfl⟩
  have hb0 : Below w.heap.size w u0 := by rw [hu0]; exact (((Below.refl _ w).alloc (Nat.le_refl _) _).alloc (by simp) _).alloc (by simp; omega) _
  have hs0 : u0.heap.size = w.heap.size + 3 := by rw [hu0]; simp
  have r0 : ChT u0 (w.heap.size + 1) 0 (.slice none 0 0) := by
    rw [hu0]
    have := ChT.fresh (w.alloc (.cells #[.int .i64 ep, v0] 25)) 0 (.slice none 0 0)
    rw [World.size_alloc] at this
    exact this.keep ((Below.refl _ _).alloc (Nat.le_refl _) _) (by simp)
  have HM := Lib.hid (maychain_r (ep + 1) (.slice a0 L.length c0) L B u0 (hI.keep (hb0.mono hB)) (by omega) false (decide_eq_false hm).symm)
  have HU := Lib.hid hu0
  clear hI hm hu0
  go_enter Try.func29, Try.ntmps29
  go_wp2_with fail
  rw [← HU.out]
  refine HM.out.mono ?_
  rintro e w1 ⟨rfl, B1⟩
  have hs1 := B1.size
  have R1 := Lib.hid (r0.keep B1 r0.lt)
  have C1 : Hid (Below w.heap.size w w1) := hb0.trans (B1.mono (by omega))
  clear B1 r0 hb0 HM HU
  obtain ⟨c0', c1', f0, f1⟩ := R1.out.cells
  go_wp2
  obtain ⟨k1, k2⟩ := R1.out.stored (ep' := 0) (v' := .slice none 0 0)
  obtain ⟨e0, e1, _, _⟩ := k1.cells
  unfold chW at e0 e1
  refine bodyPost_ret (v := .tuple #[.agg #[.int .i64 0, .slice none 0 0], .int .i64 1]) (by simp [results, Try.results29, go_sem, e0, e1]) rfl ⟨rfl, k2.below C1.out (fun x hx => by omega) (by omega)⟩

theorem info_int12 : (Try.prog.info? 3).map (fun i => (i.zero, i.size, i.bytes)) = some (some (.int .i64 0), 1, 8) := by kernel_rfl

set_option maxHeartbeats 2000000 in
theorem slgrow_nil (m : Nat) (h0 : 0 < m) (hm : m ≤ 1000) (w : World) :
    Calls Try.prog 39 #[.slice none 0 0, .int .i64 m] w fun e w' => ∃ c, e = .returned (.slice (some ⟨w.heap.size, 0, none⟩) 0 c) ∧ w'.ownsRow w.heap.size 3 1 (.slice (some ⟨w.heap.size, 0, none⟩) 0 c) 0 [] ∧ Below w.heap.size w w' := by
  obtain ⟨i0, hi, hz0, hz1, hz2⟩ := info_parts info_int12
  have hr := fun ty => Lib.run_append_nil_zeros (P := Try.prog) w 22 3 ty 3 i0 (.int .i64 0) .i64 .i64 Try.underlying22 Try.underlying3 hi hz0 m h0 (by omega) (by omega) (by rw [hz2]; omega)
  have hG1 : m ≤ grownCap w m 0 3 := grownCap_ge w _ _ _
  have hG2 : grownCap w m 0 3 ≤ maxLen := grownCap_le_maxLen w m 0 3 (by unfold maxLen; omega)
  obtain ⟨G, hG⟩ : ∃ G, G = grownCap w m 0 3 := ⟨_, rfl⟩
  rw [← hG] at hr hG1 hG2
  obtain ⟨cs, hcs⟩ : ∃ cs, cs = Builtin.zeroCells (Value.int .i64 0).cells m ++ Builtin.zeroCells (Value.int .i64 0).cells (G - m) := ⟨_, rfl⟩
  have hcz : cs.size = G := by
    rw [hcs, Array.size_append, size_zeroCells, size_zeroCells]
    simp [Value.cells]
    omega
  rw [← hcs] at hr
  have HC := Lib.hid hcz
  have hm0 : (0 : Int) < (m : Int) := by omega
  have hw : wrap64 (m : Int) = m := IntWalk.wrap64_in _ (by omega)
  clear hG hcs hcz
  go_enter Try.func39, Try.ntmps39
  go_wp2_with (at_builtin; refine Lib.wpList_append_run _ rfl _ _ _ _ rfl _ _ rfl rfl _ _ (hr _) ?_)
  go_returns
  have hb : (w.alloc (.cells cs 3)).drew.heap[w.heap.size]? = some (.cells cs 3 (0, 0)) := heap_alloc_new w _
  exact ⟨G, rfl, ⟨rfl, .inr ⟨w.heap.size, G, cs, rfl, Nat.le_refl _, hb, Nat.zero_le _, hG2, by rw [HC.out]; omega, by simp⟩⟩, ((Below.refl _ w).alloc (Nat.le_refl _) _).drew⟩

set_option maxRecDepth 100000 in
set_option maxHeartbeats 4000000 in
theorem slconcat_two (ss B : Nat) (v : Value) (L : List Int) (vx : Value) (x : Int) (w : World) (hss : w.heap[ss]? = some (.cells #[v, vx] 22 (0, 0))) (hI : Ints w B v L) (hB : B ≤ w.heap.size) (hX : Ints w w.heap.size vx [x]) (hl : L.length ≤ 100) :
    Calls Try.prog 30 #[.slice (some ⟨ss, 0, none⟩) 2 2] w fun e w' => ∃ v', e = .returned v' ∧ w'.ownsRow w.heap.size 3 1 v' (L.length + 1) (intCells (L ++ [x])) ∧ Below w.heap.size w w' := by
  obtain ⟨i0, hi, hz0, hz1, hz2⟩ := info_parts info_int12
  obtain ⟨a0, c0, rfl⟩ : ∃ a c, v = .slice a L.length c := by obtain ⟨a, c, h, _⟩ := hI; exact ⟨a, c, h⟩
  obtain ⟨ax, cx, rfl⟩ : ∃ a c, vx = .slice a 1 c := by obtain ⟨a, c, h, _⟩ := hX; exact ⟨a, c, h⟩
  obtain ⟨m, hm⟩ : ∃ m, m = L.length := ⟨_, rfl⟩
  rw [← hm] at hss hI hl ⊢
  have s0 : w.cell? ⟨ss, 0, none⟩ = some (.slice a0 m c0) := cell_of_two0 hss
  have s1 : w.cell? ⟨ss, 1, none⟩ = some (.slice ax 1 cx) := cell_of_two1 hss
  have hsl := lt_of_block hss
  have hg := slgrow_nil (m + 1) (by omega) (by omega) w
  rw [show ((m + 1 : Nat) : Int) = (m : Int) + 1 by omega] at hg
  have HG := Lib.hid hg
  have HI := Lib.hid hI
  have HX := Lib.hid hX
  have HM := Lib.hid hm
  have w1 : wrap64 ((m : Int) + 1) = (m : Int) + 1 := IntWalk.wrap64_in _ (by omega)
  have w2 : wrap64 (m : Int) = (m : Int) := IntWalk.wrap64_in _ (by omega)
  have n1 : ¬ ((m : Int) < 0) := by omega
  have n2 : ¬ ((m : Int) + 1 < 0) := by omega
  clear hm hI hX hg
  go_enter Try.func30, Try.ntmps30
  go_wp2_with fail
  refine wp_loop_rounds 3 ?_
  rw [rounds_succ]
  go_wp2_with fail
  rw [rounds_succ]
  go_wp2_with fail
  rw [rounds_succ]
  go_wp2_with fail
  refine HG.out.mono ?_
  rintro e w1 ⟨c, rfl, O1, B1⟩
  have hs1 := B1.size
  have t0 : w1.cell? ⟨ss, 0, none⟩ = some (.slice a0 m c0) := (B1.cell (p := ⟨ss, 0, none⟩) hsl).trans s0
  have t1 : w1.cell? ⟨ss, 1, none⟩ = some (.slice ax 1 cx) := (B1.cell (p := ⟨ss, 1, none⟩) hsl).trans s1
  have I1 := Lib.hid (HI.out.keep (B1.mono hB))
  have X1 := Lib.hid (HX.out.keep B1)
  have O1' := Lib.hid O1
  have HB1 := Lib.hid B1
  have hgl : w.heap.size < w1.heap.size := by have := (O1.lt w.heap.size rfl).2; omega
  clear s0 s1 B1 O1 HI HX HG
  go_wp2_with fail
  refine wp_loop_rounds 3 ?_
  rw [rounds_succ]
  go_wp2_with (at_builtin; refine wpList_append_own_src rfl (.tmp 31) (.tmp 32) 22 22 rfl w.heap.size 3 i0 (.int .i64 0) 1 8 Try.underlying22 hi hz0 hz1 hz2 rfl _ _ _ rfl O1'.out _ m (intCells L) rfl ?c2 ?c3 ?c4 ?c5 ?_)
  case c2 => have := csrc I1.out; rwa [← HM.out] at this
  case c3 => unfold maxLen; omega
  case c4 => omega
  case c5 => omega
  intro v2 w2 O2 G2
  obtain ⟨a2, c2, rfl⟩ := own_shape O2
  have hb2 : Below w.heap.size w1 w2 := (Below.refl _ w1).grown G2 (by omega) (fun j hj => by cases hj; exact Nat.le_refl _)
  have hs2 := hb2.size
  have q1 : w2.cell? ⟨ss, 1, none⟩ = some (.slice ax 1 cx) := (hb2.cell (p := ⟨ss, 1, none⟩) hsl).trans t1
  have O2' := Lib.hid O2
  have X2 := Lib.hid (X1.out.keep hb2)
  have HB2 := Lib.hid (HB1.out.trans hb2)
  clear t0 t1 O2 G2 hb2 I1 X1 O1' HB1
  go_wp2_with fail
  rw [rounds_succ]
  go_wp2_with (at_builtin; refine wpList_append_own_src rfl (.tmp 31) (.tmp 32) 22 22 rfl w.heap.size 3 i0 (.int .i64 0) 1 8 Try.underlying22 hi hz0 hz1 hz2 rfl _ _ _ rfl O2'.out _ 1 (intCells [x]) rfl ?c2 ?c3 ?c4 ?c5 ?_)
  case c2 => exact csrc X2.out
  case c3 => unfold maxLen; omega
  case c4 => omega
  case c5 => omega
  intro v3 w3 O3 G3
  obtain ⟨a3, c3, rfl⟩ := own_shape O3
  have hb3 : Hid (Below w.heap.size w w3) := HB2.out.grown G3 (by omega) (fun j hj => (O2'.out.lt j hj).1)
  have O3' := Lib.hid O3
  clear O3 G3 q1
  go_wp2_with fail
  rw [rounds_succ]
  go_wp2_with fail
  go_returns
  exact ⟨_, rfl, by rw [← cells_app]; exact O3'.out, hb3.out⟩
end Go.Proofs.Ytnliadnpoledmaa
