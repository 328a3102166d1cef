/-
  THE REFERENCE's With. Of chains of at most a hundred nodes.
-/
import Derived.Test.YtnliadnpoledmaaChainS
import Derived.Deep.DeepCutAuto
namespace Go.Proofs.Ytnliadnpoledmaa
open Go.RowKit

theorem row_empty {u : World} {base p : Nat} (hp : u.heap[p]? = some (.cells #[] 3 (0, 0))) (hb : base ≤ p) : u.ownsRow base 3 1 (.slice (some ⟨p, 0, none⟩) 0 0) 0 [] :=
  ⟨rfl, .inr ⟨p, 0, #[], rfl, hb, hp, Nat.le_refl _, Nat.zero_le _, rfl, rfl⟩⟩
theorem srcOneX {u : World} {p : Nat} {x : Int} (h : u.cell? ⟨p, 0, none⟩ = some (.int .i64 x)) : Src Try.prog 1 22 (.slice (some ⟨p, 0, none⟩) 1 1) 1 (intCells [x]) u :=
  csrc (B := p + 1) (L := [x]) ⟨_, _, rfl, Nat.le_refl _, by decide, fun e => (by cases e), fun _ => ⟨_, _, rfl, Nat.lt_succ_self _, fun j hj => by
    obtain rfl : j = 0 := by simpa using hj
    simpa using h⟩⟩

theorem alloc_keep {w : World} {b : Nat} {o' : Obj} (o : Obj) (h : w.heap[b]? = some o') : (w.alloc o).heap[b]? = some o' := (Below.heap_alloc w o b (Array.getElem?_eq_some_iff.1 h).1).trans h
theorem ChT.not_row {w : World} {b n base : Nat} {ep : Int} {v u : Value} {xs : List Value} (h : ChT w b ep v) (hr : w.ownsRow base 3 1 u n xs) : some b ≠ u.ownBlock := by
  rcases hr.2 with ⟨rfl, _⟩ | ⟨g, cap, cur, rfl, _, hgb, _⟩
  · simp [Value.ownBlock]
  · intro e
    obtain rfl : b = g := by simpa [Value.ownBlock] using e
    have := (show w.heap[b]? = _ from h).symm.trans hgb
    simp at this
theorem rowOnlyZ {w w' : World} {b n base : Nat} {ep : Int} {v u : Value} {xs : List Value} (hr : w.ownsRow base 3 1 u n xs) (h : ChT w b ep v) (ho : Only (· = b) w w') : w'.ownsRow base 3 1 u n xs := by
  have hne := h.not_row hr
  refine ⟨hr.1, ?_⟩
  rcases hr.2 with h0 | ⟨g, cap, cur, rfl, hg, hh, h3⟩
  · exact .inl h0
  · exact .inr ⟨g, cap, cur, rfl, hg, (ho.block g (lt_of_block hh) (fun e => hne (by simp [Value.ownBlock, e]))).trans hh, h3⟩

set_option maxRecDepth 100000 in
set_option maxHeartbeats 2000000 in
theorem rhwith_no (ep : Int) (va : Value) (A : List Int) (x : Int) (B : Nat) (w : World) (hIa : Ints w B va A) (hB : B ≤ w.heap.size) (hA : A.length ≤ 100) (h : 1073741824 ≤ ep ∨ (ep < 1073741824 ∧ x ∈ A)) :
    Calls Try.prog 26 #[.agg #[.int .i64 ep, va], .int .i64 x] w fun e w' => e = .returned (.tuple #[.agg #[.int .i64 0, .slice none 0 0], .int .i64 1]) ∧ Below w.heap.size w w' := by
  obtain ⟨aa, ca, rfl⟩ : ∃ a c, va = .slice a A.length c := by obtain ⟨a, c, h, _⟩ := hIa; exact ⟨a, c, h⟩
  obtain ⟨u0, hu0⟩ : ∃ u0, u0 = (w.alloc (.cells #[.int .i64 ep, .slice aa A.length ca] 25)).alloc (.cells #[.int .i64 0, .slice none 0 0] 25) := ⟨_, rfl⟩
  have hb0 : Below w.heap.size w u0 := by rw [hu0]; exact ((Below.refl _ w).alloc (Nat.le_refl _) _).alloc (by simp) _
  have r0 : ChT u0 (w.heap.size + 1) 0 (.slice none 0 0) := by
    rw [hu0]
    have := ChT.fresh (w.alloc (.cells #[.int .i64 ep, .slice aa A.length ca] 25)) 0 (.slice none 0 0)
    rwa [World.size_alloc] at this
  have HP : Hid (Calls Try.prog 22 #[.agg #[.int .i64 ep, .slice aa A.length ca], .int .i64 x] u0 fun e w' => e = .returned (.int .i64 (plcV A x)) ∧ Below u0.heap.size u0 w') :=
    rhplace_r ep _ A x B u0 (hIa.keep (hb0.mono hB)) (Nat.le_trans hB hb0.size) (by omega) rfl
  have HU := Lib.hid hu0
  have HB0 := Lib.hid hb0
  have R0 := Lib.hid r0
  clear hIa hu0 hb0 r0
  rcases h with h | ⟨h, hx⟩
  · obtain ⟨k1, k2⟩ := R0.out.stored (ep' := 0) (v' := .slice none 0 0)
    have K2 : Hid (Below w.heap.size w (chW u0 (w.heap.size + 1) 0 (.slice none 0 0))) := k2.below HB0.out (fun x hx => by omega) HB0.out.size
    obtain ⟨e0, e1, _, _⟩ := k1.cells
    have E0 := Lib.hid e0
    have E1 := Lib.hid e1
    clear k1 k2 e0 e1 HP
    go_enter Try.func26, Try.ntmps26
    go_wp2_with fail
    have e0 := E0.out
    have e1 := E1.out
    have k2 := K2.out
    rw [HU.out] at e0 e1 k2
    unfold chW at e0 e1 k2
    refine bodyPost_ret (v := .tuple #[.agg #[.int .i64 0, .slice none 0 0], .int .i64 1]) (by simp [results, Try.results26, go_sem]) rfl ⟨rfl, by first | exact k2 | go_grown⟩
  · have hp : plcV A x = (A.idxOf x : Int) := by unfold plcV; rw [if_pos hx]
    rw [hp] at HP
    obtain ⟨i, hi⟩ : ∃ i, i = A.idxOf x := ⟨_, rfl⟩
    rw [← hi] at HP
    have hi0 : (0 : Int) ≤ (i : Int) := by omega
    have hn : ¬ (1073741824 ≤ ep) := by omega
    clear hx hp hi h
    go_enter Try.func26, Try.ntmps26
    go_wp2_with fail
    rw [← HU.out]
    refine HP.out.mono ?_
    rintro e w1 ⟨rfl, B1⟩
    have R1 := Lib.hid (R0.out.keep B1 R0.out.lt)
    have C1 := Lib.hid (HB0.out.trans (B1.mono HB0.out.size))
    clear B1
    obtain ⟨y0, y1, z0, z1⟩ := R1.out.cells
    go_wp2_with fail
    obtain ⟨k1, k2⟩ := R1.out.stored (ep' := 0) (v' := .slice none 0 0)
    have hbw := k2.below C1.out (fun x hx => by omega) C1.out.size
    obtain ⟨e0, e1, _, _⟩ := k1.cells
    unfold chW at e0 e1
    refine bodyPost_ret (v := .tuple #[.agg #[.int .i64 0, .slice none 0 0], .int .i64 1]) (by simp [results, Try.results26, go_sem, e0, e1]) rfl ⟨rfl, hbw⟩

set_option maxRecDepth 100000 in
set_option maxHeartbeats 16000000 in
theorem rhwith_in (ep : Int) (va : Value) (A : List Int) (x : Int) (B : Nat) (w : World) (hIa : Ints w B va A) (hB : B ≤ w.heap.size) (hA : A.length ≤ 100) (h0 : 0 ≤ ep) (hep : ep < 1073741824) (hx : x ∉ A) {ep' : Int} {er : Int}
    (hE : (ChainV.may ⟨ep + 1, A ++ [x]⟩ ∧ ep' = ep + 1 ∧ er = 0) ∨ (¬ ChainV.may ⟨ep + 1, A ++ [x]⟩ ∧ ep' = 0 ∧ er = 1)) :
    Calls Try.prog 26 #[.agg #[.int .i64 ep, va], .int .i64 x] w fun e w' => ∃ a n c, e = .returned (.tuple #[.agg #[.int .i64 ep', .slice a n c], .int .i64 er]) ∧ (er = 0 → Ints w' w'.heap.size (.slice a n c) (A ++ [x])) ∧ (er = 1 → a = none ∧ n = 0 ∧ c = 0) ∧ Below w.heap.size w w' := by
  obtain ⟨i0, hi, hz0, hz1, hz2⟩ := info_parts info_int12
  obtain ⟨aa, ca, rfl⟩ : ∃ a c, va = .slice a A.length c := by obtain ⟨a, c, h, _⟩ := hIa; exact ⟨a, c, h⟩
  obtain ⟨u0, hu0⟩ : ∃ u0, u0 = (w.alloc (.cells #[.int .i64 ep, .slice aa A.length ca] 25)).alloc (.cells #[.int .i64 0, .slice none 0 0] 25) := ⟨_, rfl⟩
  have hb0 : Below w.heap.size w u0 := by rw [hu0]; exact ((Below.refl _ w).alloc (Nat.le_refl _) _).alloc (by simp) _
  have a0 : ChT u0 w.heap.size ep (.slice aa A.length ca) := by rw [hu0]; exact (ChT.fresh w _ _).keep ((Below.refl _ _).alloc (Nat.le_refl _) _) (by simp)
  have r0 : ChT u0 (w.heap.size + 1) 0 (.slice none 0 0) := by
    rw [hu0]
    have := ChT.fresh (w.alloc (.cells #[.int .i64 ep, .slice aa A.length ca] 25)) 0 (.slice none 0 0)
    rwa [World.size_alloc] at this
  have hp : plcV A x = -1 := by unfold plcV; rw [if_neg hx]
  have HP : Hid (Calls Try.prog 22 #[.agg #[.int .i64 ep, .slice aa A.length ca], .int .i64 x] u0 fun e w' => e = .returned (.int .i64 (-1)) ∧ Below u0.heap.size u0 w') :=
    rhplace_r ep _ A x B u0 (hIa.keep (hb0.mono hB)) (Nat.le_trans hB hb0.size) (by omega) hp
  obtain ⟨m, hm⟩ : ∃ m, m = A.length := ⟨_, rfl⟩
  have HIA := Lib.hid hIa
  have HU := Lib.hid hu0
  have HB0 := Lib.hid hb0
  have A0 := Lib.hid a0
  have R0 := Lib.hid r0
  have HM := Lib.hid hm
  have HE := Lib.hid hE
  rw [← hm] at HIA HU A0 HP hA ⊢
  have hn : ¬ (1073741824 ≤ ep) := by omega
  have he2 : IntKind.i64.wrap (ep + 1) = ep + 1 := by rw [IntKind.wrap_i64]; omega
  clear hIa hu0 hb0 a0 r0 hp hm hE hx
  go_enter Try.func26, Try.ntmps26
  go_wp2_with fail
  rw [← HU.out]
  refine HP.out.mono ?_
  rintro e W ⟨rfl, B1⟩
  have R1 := Lib.hid (R0.out.keep B1 R0.out.lt)
  have A1 := Lib.hid (A0.out.keep B1 A0.out.lt)
  have C1 := Lib.hid (HB0.out.trans (B1.mono HB0.out.size))
  have hW : w.heap.size + 2 ≤ W.heap.size := by have := R1.out.lt; omega
  clear B1 HP HU HB0 R0 A0
  have HS : Hid (∀ u, Below W.heap.size W u → (fun u => u.cell? ⟨w.heap.size, 0, none⟩ = some (.int .i64 ep) ∧ u.cell? ⟨w.heap.size, 1, none⟩ = some (.slice aa m ca)) u) := fun u hu => ⟨(A1.out.keep hu A1.out.lt).cells.1, (A1.out.keep hu A1.out.lt).cells.2.1⟩
  have HSA : Hid (∀ u, Below W.heap.size W u → Src Try.prog 1 22 (.slice aa m ca) m (intCells A) u) := fun u hu => by
    have := csrc (HIA.out.keep ((C1.out.trans (hu.mono C1.out.size)).mono hB))
    rwa [← HM.out] at this
  have P0 : (fun u => u.cell? ⟨w.heap.size, 0, none⟩ = some (.int .i64 ep) ∧ u.cell? ⟨w.heap.size, 1, none⟩ = some (.slice aa m ca)) W.drew := HS.out _ (show Below W.heap.size W W.drew from (Below.refl _ _).drew)
  have HA1 := Lib.hid A1
  go_wp2_with fail
  go_cut [6] (fun s6 wc => ∃ (D : Nat) (a3 : Option Addr) (c3 : Nat), s6 = .pointer (some ⟨D, 0, none⟩) ∧ Hid (ChT wc D (ep + 1) (.slice a3 (m + 1) c3) ∧ wc.ownsRow W.heap.size 3 1 (.slice a3 (m + 1) c3) (m + 1) (intCells A ++ intCells [x]) ∧ Below W.heap.size W wc))
  case first =>
    refine wp_region_held_drew (S := (fun u => u.cell? ⟨w.heap.size, 0, none⟩ = some (.int .i64 ep) ∧ u.cell? ⟨w.heap.size, 1, none⟩ = some (.slice aa m ca))) (by kernel_rfl) P0 (fun hHeld => ?_)
    first
      | (refine held_take 0 17 (v := ?_) rfl rfl (by kernel_rfl) (by kernel_rfl) (by kernel_rfl) (fun _ _ _ h => h) (by assumption) (by rfl) ?_ ?_; rotate_left; (focus (intro w hSw; obtain ⟨hS0, hS1⟩ := hSw; go_simp <;> with_reducible rfl)))
      | refine held_pass 0 17 rfl rfl (by kernel_rfl) (by kernel_rfl) (by kernel_rfl) (fun _ _ _ h => h) (by assumption) (by rfl) ?_
    simp only [Act.put, List.setIfInBounds_toArray, List.set_cons_zero, List.set_cons_succ]
    first
      | (refine held_take 1 18 (v := ?_) rfl rfl (by kernel_rfl) (by kernel_rfl) (by kernel_rfl) (fun _ _ _ h => h) (by assumption) (by rfl) ?_ ?_; rotate_left; (focus (intro w hSw; obtain ⟨hS0, hS1⟩ := hSw; go_simp <;> with_reducible rfl)))
      | refine held_pass 1 18 rfl rfl (by kernel_rfl) (by kernel_rfl) (by kernel_rfl) (fun _ _ _ h => h) (by assumption) (by rfl) ?_
    simp only [Act.put, List.setIfInBounds_toArray, List.set_cons_zero, List.set_cons_succ]
    first
      | (refine held_take 2 19 (v := ?_) rfl rfl (by kernel_rfl) (by kernel_rfl) (by kernel_rfl) (fun _ _ _ h => h) (by assumption) (by rfl) ?_ ?_; rotate_left; (focus (intro w hSw; obtain ⟨hS0, hS1⟩ := hSw; go_simp <;> with_reducible rfl)))
      | refine held_pass 2 19 rfl rfl (by kernel_rfl) (by kernel_rfl) (by kernel_rfl) (fun _ _ _ h => h) (by assumption) (by rfl) ?_
    simp only [Act.put, List.setIfInBounds_toArray, List.set_cons_zero, List.set_cons_succ]
    first
      | (refine held_take 4 21 (v := ?_) rfl rfl (by kernel_rfl) (by kernel_rfl) (by kernel_rfl) (fun _ _ _ h => h) (by assumption) (by rfl) ?_ ?_; rotate_left; (focus (intro w hSw; obtain ⟨hS0, hS1⟩ := hSw; go_simp <;> with_reducible rfl)))
      | refine held_pass 4 21 rfl rfl (by kernel_rfl) (by kernel_rfl) (by kernel_rfl) (fun _ _ _ h => h) (by assumption) (by rfl) ?_
    simp only [Act.put, List.setIfInBounds_toArray, List.set_cons_zero, List.set_cons_succ]
    first
      | (refine held_take 5 22 (v := ?_) rfl rfl (by kernel_rfl) (by kernel_rfl) (by kernel_rfl) (fun _ _ _ h => h) (by assumption) (by rfl) ?_ ?_; rotate_left; (focus (intro w hSw; obtain ⟨hS0, hS1⟩ := hSw; go_simp <;> with_reducible rfl)))
      | refine held_pass 5 22 rfl rfl (by kernel_rfl) (by kernel_rfl) (by kernel_rfl) (fun _ _ _ h => h) (by assumption) (by rfl) ?_
    simp only [Act.put, List.setIfInBounds_toArray, List.set_cons_zero, List.set_cons_succ]
    first
      | (refine held_take 7 24 (v := ?_) rfl rfl (by kernel_rfl) (by kernel_rfl) (by kernel_rfl) (fun _ _ _ h => h) (by assumption) (by rfl) ?_ ?_; rotate_left; (focus (intro w hSw; obtain ⟨hS0, hS1⟩ := hSw; go_simp <;> with_reducible rfl)))
      | refine held_pass 7 24 rfl rfl (by kernel_rfl) (by kernel_rfl) (by kernel_rfl) (fun _ _ _ h => h) (by assumption) (by rfl) ?_
    simp only [Act.put, List.setIfInBounds_toArray, List.set_cons_zero, List.set_cons_succ]
    refine wpAnyH_ready (rs := [3, 8, 11]) (by kernel_rfl) (by simp) (AllReadyH.cons rfl (fun K hK => ?_) (AllReadyH.cons rfl (fun K hK => ?_) (AllReadyH.cons rfl (fun K hK => ?_) AllReadyH.nil)))
    · try simp only [Go.wp_at_succ, Go.wp_at_zero]
      go_simp
      refine hK.out _ _ (HS.out _ ?_) (fun hHeld => ?_)
      · show Below W.heap.size W _; go_grown
      clear hK K
      try simp only [Act.put, List.setIfInBounds_toArray, List.set_cons_zero, List.set_cons_succ]
      obtain ⟨u1, hN⟩ : ∃ u, u = (W.alloc (.cells #[] 3)).drew := ⟨_, rfl⟩
      rw [← hN] at hHeld ⊢
      have Bu1 : Hid (Below W.heap.size W u1) := by rw [hN]; exact ((Below.refl _ W).alloc (Nat.le_refl _) _).drew
      have Eu1 : Hid (u1.heap[W.heap.size]? = some (.cells #[] 3 (0, 0))) := by rw [hN]; exact heap_alloc_new W _
      clear hN
      refine wpAnyH_ready (rs := [6, 8, 11]) (by kernel_rfl) (by simp) (AllReadyH.cons rfl (fun K hK => ?_) (AllReadyH.cons rfl (fun K hK => ?_) (AllReadyH.cons rfl (fun K hK => ?_) AllReadyH.nil)))
      · have HRu : Hid (u1.ownsRow W.heap.size 3 1 (.slice (some ⟨W.heap.size, 0, none⟩) 0 0) 0 []) := row_empty Eu1.out (Nat.le_refl _)
        refine stepApp rfl (.tmp 20) (.tmp 22) 22 22 rfl W.heap.size 3 i0 (.int .i64 0) 1 8 Try.underlying22 hi hz0 hz1 hz2 rfl (.slice (some ⟨W.heap.size, 0, none⟩) 0 0) _ _ rfl HRu.out _ m (intCells A) rfl (HSA.out _ Bu1.out) ?c3 ?c4 ?c5 ?_
        case c3 => unfold maxLen; omega
        case c4 => omega
        case c5 => exact Bu1.out.size
        intro vu2 u2 O G
        have Bu2 : Hid (Below W.heap.size W u2) := Bu1.out.grown G Bu1.out.size (fun y hy => (HRu.out.lt y hy).1)
        rw [Nat.zero_add, List.nil_append] at O
        obtain ⟨au2, cu2, rfl⟩ := own_shape O
        have Ru2 := Lib.hid O
        clear O G
        refine hK.out _ _ (HS.out _ Bu2.out) (fun hHeld => ?_)
        clear hK K
        try simp only [Act.put]
        try simp only [List.setIfInBounds_toArray]
        refine wpAnyH_ready (rs := [8, 11]) (by kernel_rfl) (by simp) (AllReadyH.cons rfl (fun K hK => ?_) (AllReadyH.cons rfl (fun K hK => ?_) AllReadyH.nil))
        · try simp only [Go.wp_at_succ, Go.wp_at_zero]
          go_simp
          refine hK.out _ _ (HS.out _ ?_) (fun hHeld => ?_)
          · exact Bu2.out.alloc Bu2.out.size _
          clear hK K
          try simp only [Act.put, List.setIfInBounds_toArray, List.set_cons_zero, List.set_cons_succ]
          obtain ⟨u3, hN⟩ : ∃ u, u = u2.alloc (.cells #[.int .i64 x] 3) := ⟨_, rfl⟩
          rw [← hN] at hHeld ⊢
          have Bu3 : Hid (Below W.heap.size W u3) := by rw [hN]; exact Bu2.out.alloc Bu2.out.size _
          have Xu3 : Hid (u3.heap[u2.heap.size]? = some (.cells #[.int .i64 x] 3 (0, 0))) := by rw [hN]; exact heap_alloc_new u2 _
          have Ru3 := Lib.hid (Ru2.out.alloc (.cells #[.int .i64 x] 3))
          rw [← hN] at Ru3
          clear hN
          refine wpAnyH_ready (rs := [9, 11]) (by kernel_rfl) (by simp) (AllReadyH.cons rfl (fun K hK => ?_) (AllReadyH.cons rfl (fun K hK => ?_) AllReadyH.nil))
          · refine stepApp rfl (.tmp 23) (.tmp 25) 22 22 rfl W.heap.size 3 i0 (.int .i64 0) 1 8 Try.underlying22 hi hz0 hz1 hz2 rfl (.slice au2 m cu2) _ _ rfl Ru3.out _ 1 (intCells [x]) rfl (srcOneX (cell_of_one Xu3.out)) ?c3 ?c4 ?c5 ?_
            case c3 => unfold maxLen; omega
            case c4 => omega
            case c5 => exact Bu3.out.size
            intro vu4 u4 O G
            have Bu4 : Hid (Below W.heap.size W u4) := Bu3.out.grown G Bu3.out.size (fun y hy => (Ru3.out.lt y hy).1)
            obtain ⟨au4, cu4, rfl⟩ := own_shape O
            have Ru4 := Lib.hid O
            clear O G
            refine hK.out _ _ (HS.out _ Bu4.out) (fun hHeld => ?_)
            clear hK K
            try simp only [Act.put]
            try simp only [List.setIfInBounds_toArray]
            first
              | (refine held_take 10 27 (v := ?_) rfl rfl (by kernel_rfl) (by kernel_rfl) (by kernel_rfl) (fun _ _ _ h => h) (by assumption) (by rfl) ?_ ?_; rotate_left; (focus (intro w hSw; obtain ⟨hS0, hS1⟩ := hSw; go_simp <;> with_reducible rfl)))
              | refine held_pass 10 27 rfl rfl (by kernel_rfl) (by kernel_rfl) (by kernel_rfl) (fun _ _ _ h => h) (by assumption) (by rfl) ?_
            simp only [Act.put]
            refine wpAnyH_ready (rs := [11]) (by kernel_rfl) (by simp) (AllReadyH.cons rfl (fun K hK => ?_) AllReadyH.nil)
            try simp only [Go.wp_at_succ, Go.wp_at_zero]
            go_simp
            refine hK.out _ _ (HS.out _ ?_) (fun hHeld => ?_)
            · exact Bu4.out.alloc Bu4.out.size _
            clear hK K
            try simp only [Act.put, List.setIfInBounds_toArray, List.set_cons_zero, List.set_cons_succ]
            obtain ⟨u5, hN⟩ : ∃ u, u = u4.alloc (.cells #[.int .i64 0, .slice none 0 0] 25) := ⟨_, rfl⟩
            rw [← hN] at hHeld ⊢
            have Bu5 : Hid (Below W.heap.size W u5) := by rw [hN]; exact Bu4.out.alloc Bu4.out.size _
            have Zu5 : Hid (u5.heap[u4.heap.size]? = some (.cells #[.int .i64 0, .slice none 0 0] 25 (0, 0))) := by rw [hN]; exact heap_alloc_new u4 _
            have Ru5 := Lib.hid (Ru4.out.alloc (.cells #[.int .i64 0, .slice none 0 0] 25))
            rw [← hN] at Ru5
            clear hN
            obtain ⟨y0, y1, z0, z1⟩ := (show ChT u5 u4.heap.size 0 (.slice none 0 0) from Zu5.out).cells
            obtain ⟨k1, k2⟩ := (show ChT u5 u4.heap.size 0 (.slice none 0 0) from Zu5.out).stored (ep' := ep + 1) (v' := .slice au4 (m + 1) cu4)
            have K1 := Lib.hid k1
            have K3 := Lib.hid (rowOnlyZ Ru5.out (show ChT u5 u4.heap.size 0 (.slice none 0 0) from Zu5.out) k2)
            have K4 := Lib.hid (k2.below Bu5.out (fun y hy => by subst hy; exact Bu4.out.size) Bu5.out.size)
            clear k1 k2
            refine wpAnyH_ready (rs := [12]) (by kernel_rfl) (by simp) (AllReadyH.cons rfl (fun K hK => ?_) AllReadyH.nil)
            try simp only [Go.wp_at_succ, Go.wp_at_zero]
            go_simp
            refine hK.out _ _ (HS.out _ K4.out) (fun hHeld => ?_)
            clear hK K
            try simp only [Act.put]
            refine wpAnyH_done (by kernel_rfl) ?_ _
            go_wp2
            go_meet
            case rel => exact ⟨_, au4, cu4, rfl, K1.out, K3.out, K4.out⟩
          · try simp only [Go.wp_at_succ, Go.wp_at_zero]
            go_simp
            refine hK.out _ _ (HS.out _ ?_) (fun hHeld => ?_)
            · exact Bu3.out.alloc Bu3.out.size _
            clear hK K
            try simp only [Act.put, List.setIfInBounds_toArray, List.set_cons_zero, List.set_cons_succ]
            obtain ⟨u4, hN⟩ : ∃ u, u = u3.alloc (.cells #[.int .i64 0, .slice none 0 0] 25) := ⟨_, rfl⟩
            rw [← hN] at hHeld ⊢
            have Bu4 : Hid (Below W.heap.size W u4) := by rw [hN]; exact Bu3.out.alloc Bu3.out.size _
            have Xu4 : Hid (u4.heap[u2.heap.size]? = some (.cells #[.int .i64 x] 3 (0, 0))) := by rw [hN]; exact alloc_keep _ Xu3.out
            have Zu4 : Hid (u4.heap[u3.heap.size]? = some (.cells #[.int .i64 0, .slice none 0 0] 25 (0, 0))) := by rw [hN]; exact heap_alloc_new u3 _
            have Ru4 := Lib.hid (Ru3.out.alloc (.cells #[.int .i64 0, .slice none 0 0] 25))
            rw [← hN] at Ru4
            clear hN
            refine wpAnyH_ready (rs := [9]) (by kernel_rfl) (by simp) (AllReadyH.cons rfl (fun K hK => ?_) AllReadyH.nil)
            refine stepApp rfl (.tmp 23) (.tmp 25) 22 22 rfl W.heap.size 3 i0 (.int .i64 0) 1 8 Try.underlying22 hi hz0 hz1 hz2 rfl (.slice au2 m cu2) _ _ rfl Ru4.out _ 1 (intCells [x]) rfl (srcOneX (cell_of_one Xu4.out)) ?c3 ?c4 ?c5 ?_
            case c3 => unfold maxLen; omega
            case c4 => omega
            case c5 => exact Bu4.out.size
            intro vu5 u5 O G
            have Bu5 : Hid (Below W.heap.size W u5) := Bu4.out.grown G Bu4.out.size (fun y hy => (Ru4.out.lt y hy).1)
            have Zu5 : Hid (u5.heap[u3.heap.size]? = some (.cells #[.int .i64 0, .slice none 0 0] 25 (0, 0))) := (G.block _ (Array.getElem?_eq_some_iff.1 Zu4.out).1 ((show ChT u4 u3.heap.size 0 (.slice none 0 0) from Zu4.out).not_row Ru4.out)).trans Zu4.out
            obtain ⟨au5, cu5, rfl⟩ := own_shape O
            have Ru5 := Lib.hid O
            clear O G
            refine hK.out _ _ (HS.out _ Bu5.out) (fun hHeld => ?_)
            clear hK K
            try simp only [Act.put]
            try simp only [List.setIfInBounds_toArray]
            first
              | (refine held_take 10 27 (v := ?_) rfl rfl (by kernel_rfl) (by kernel_rfl) (by kernel_rfl) (fun _ _ _ h => h) (by assumption) (by rfl) ?_ ?_; rotate_left; (focus (intro w hSw; obtain ⟨hS0, hS1⟩ := hSw; go_simp <;> with_reducible rfl)))
              | refine held_pass 10 27 rfl rfl (by kernel_rfl) (by kernel_rfl) (by kernel_rfl) (fun _ _ _ h => h) (by assumption) (by rfl) ?_
            simp only [Act.put]
            obtain ⟨y0, y1, z0, z1⟩ := (show ChT u5 u3.heap.size 0 (.slice none 0 0) from Zu5.out).cells
            obtain ⟨k1, k2⟩ := (show ChT u5 u3.heap.size 0 (.slice none 0 0) from Zu5.out).stored (ep' := ep + 1) (v' := .slice au5 (m + 1) cu5)
            have K1 := Lib.hid k1
            have K3 := Lib.hid (rowOnlyZ Ru5.out (show ChT u5 u3.heap.size 0 (.slice none 0 0) from Zu5.out) k2)
            have K4 := Lib.hid (k2.below Bu5.out (fun y hy => by subst hy; exact Bu3.out.size) Bu5.out.size)
            clear k1 k2
            refine wpAnyH_ready (rs := [12]) (by kernel_rfl) (by simp) (AllReadyH.cons rfl (fun K hK => ?_) AllReadyH.nil)
            try simp only [Go.wp_at_succ, Go.wp_at_zero]
            go_simp
            refine hK.out _ _ (HS.out _ K4.out) (fun hHeld => ?_)
            clear hK K
            try simp only [Act.put]
            refine wpAnyH_done (by kernel_rfl) ?_ _
            go_wp2
            go_meet
            case rel => exact ⟨_, au5, cu5, rfl, K1.out, K3.out, K4.out⟩
        · try simp only [Go.wp_at_succ, Go.wp_at_zero]
          go_simp
          refine hK.out _ _ (HS.out _ ?_) (fun hHeld => ?_)
          · exact Bu2.out.alloc Bu2.out.size _
          clear hK K
          try simp only [Act.put, List.setIfInBounds_toArray, List.set_cons_zero, List.set_cons_succ]
          obtain ⟨u3, hN⟩ : ∃ u, u = u2.alloc (.cells #[.int .i64 0, .slice none 0 0] 25) := ⟨_, rfl⟩
          rw [← hN] at hHeld ⊢
          have Bu3 : Hid (Below W.heap.size W u3) := by rw [hN]; exact Bu2.out.alloc Bu2.out.size _
          have Zu3 : Hid (u3.heap[u2.heap.size]? = some (.cells #[.int .i64 0, .slice none 0 0] 25 (0, 0))) := by rw [hN]; exact heap_alloc_new u2 _
          have Ru3 := Lib.hid (Ru2.out.alloc (.cells #[.int .i64 0, .slice none 0 0] 25))
          rw [← hN] at Ru3
          clear hN
          refine wpAnyH_ready (rs := [8]) (by kernel_rfl) (by simp) (AllReadyH.cons rfl (fun K hK => ?_) AllReadyH.nil)
          try simp only [Go.wp_at_succ, Go.wp_at_zero]
          go_simp
          refine hK.out _ _ (HS.out _ ?_) (fun hHeld => ?_)
          · exact Bu3.out.alloc Bu3.out.size _
          clear hK K
          try simp only [Act.put, List.setIfInBounds_toArray, List.set_cons_zero, List.set_cons_succ]
          obtain ⟨u4, hN⟩ : ∃ u, u = u3.alloc (.cells #[.int .i64 x] 3) := ⟨_, rfl⟩
          rw [← hN] at hHeld ⊢
          have Bu4 : Hid (Below W.heap.size W u4) := by rw [hN]; exact Bu3.out.alloc Bu3.out.size _
          have Zu4 : Hid (u4.heap[u2.heap.size]? = some (.cells #[.int .i64 0, .slice none 0 0] 25 (0, 0))) := by rw [hN]; exact alloc_keep _ Zu3.out
          have Xu4 : Hid (u4.heap[u3.heap.size]? = some (.cells #[.int .i64 x] 3 (0, 0))) := by rw [hN]; exact heap_alloc_new u3 _
          have Ru4 := Lib.hid (Ru3.out.alloc (.cells #[.int .i64 x] 3))
          rw [← hN] at Ru4
          clear hN
          refine wpAnyH_ready (rs := [9]) (by kernel_rfl) (by simp) (AllReadyH.cons rfl (fun K hK => ?_) AllReadyH.nil)
          refine stepApp rfl (.tmp 23) (.tmp 25) 22 22 rfl W.heap.size 3 i0 (.int .i64 0) 1 8 Try.underlying22 hi hz0 hz1 hz2 rfl (.slice au2 m cu2) _ _ rfl Ru4.out _ 1 (intCells [x]) rfl (srcOneX (cell_of_one Xu4.out)) ?c3 ?c4 ?c5 ?_
          case c3 => unfold maxLen; omega
          case c4 => omega
          case c5 => exact Bu4.out.size
          intro vu5 u5 O G
          have Bu5 : Hid (Below W.heap.size W u5) := Bu4.out.grown G Bu4.out.size (fun y hy => (Ru4.out.lt y hy).1)
          have Zu5 : Hid (u5.heap[u2.heap.size]? = some (.cells #[.int .i64 0, .slice none 0 0] 25 (0, 0))) := (G.block _ (Array.getElem?_eq_some_iff.1 Zu4.out).1 ((show ChT u4 u2.heap.size 0 (.slice none 0 0) from Zu4.out).not_row Ru4.out)).trans Zu4.out
          obtain ⟨au5, cu5, rfl⟩ := own_shape O
          have Ru5 := Lib.hid O
          clear O G
          refine hK.out _ _ (HS.out _ Bu5.out) (fun hHeld => ?_)
          clear hK K
          try simp only [Act.put]
          try simp only [List.setIfInBounds_toArray]
          first
            | (refine held_take 10 27 (v := ?_) rfl rfl (by kernel_rfl) (by kernel_rfl) (by kernel_rfl) (fun _ _ _ h => h) (by assumption) (by rfl) ?_ ?_; rotate_left; (focus (intro w hSw; obtain ⟨hS0, hS1⟩ := hSw; go_simp <;> with_reducible rfl)))
            | refine held_pass 10 27 rfl rfl (by kernel_rfl) (by kernel_rfl) (by kernel_rfl) (fun _ _ _ h => h) (by assumption) (by rfl) ?_
          simp only [Act.put]
          obtain ⟨y0, y1, z0, z1⟩ := (show ChT u5 u2.heap.size 0 (.slice none 0 0) from Zu5.out).cells
          obtain ⟨k1, k2⟩ := (show ChT u5 u2.heap.size 0 (.slice none 0 0) from Zu5.out).stored (ep' := ep + 1) (v' := .slice au5 (m + 1) cu5)
          have K1 := Lib.hid k1
          have K3 := Lib.hid (rowOnlyZ Ru5.out (show ChT u5 u2.heap.size 0 (.slice none 0 0) from Zu5.out) k2)
          have K4 := Lib.hid (k2.below Bu5.out (fun y hy => by subst hy; exact Bu2.out.size) Bu5.out.size)
          clear k1 k2
          refine wpAnyH_ready (rs := [12]) (by kernel_rfl) (by simp) (AllReadyH.cons rfl (fun K hK => ?_) AllReadyH.nil)
          try simp only [Go.wp_at_succ, Go.wp_at_zero]
          go_simp
          refine hK.out _ _ (HS.out _ K4.out) (fun hHeld => ?_)
          clear hK K
          try simp only [Act.put]
          refine wpAnyH_done (by kernel_rfl) ?_ _
          go_wp2
          go_meet
          case rel => exact ⟨_, au5, cu5, rfl, K1.out, K3.out, K4.out⟩
      · try simp only [Go.wp_at_succ, Go.wp_at_zero]
        go_simp
        refine hK.out _ _ (HS.out _ ?_) (fun hHeld => ?_)
        · exact Bu1.out.alloc Bu1.out.size _
        clear hK K
        try simp only [Act.put, List.setIfInBounds_toArray, List.set_cons_zero, List.set_cons_succ]
        obtain ⟨u2, hN⟩ : ∃ u, u = u1.alloc (.cells #[.int .i64 x] 3) := ⟨_, rfl⟩
        rw [← hN] at hHeld ⊢
        have Bu2 : Hid (Below W.heap.size W u2) := by rw [hN]; exact Bu1.out.alloc Bu1.out.size _
        have Eu2 : Hid (u2.heap[W.heap.size]? = some (.cells #[] 3 (0, 0))) := by rw [hN]; exact alloc_keep _ Eu1.out
        have Xu2 : Hid (u2.heap[u1.heap.size]? = some (.cells #[.int .i64 x] 3 (0, 0))) := by rw [hN]; exact heap_alloc_new u1 _
        clear hN
        refine wpAnyH_ready (rs := [6, 11]) (by kernel_rfl) (by simp) (AllReadyH.cons rfl (fun K hK => ?_) (AllReadyH.cons rfl (fun K hK => ?_) AllReadyH.nil))
        · have HRu : Hid (u2.ownsRow W.heap.size 3 1 (.slice (some ⟨W.heap.size, 0, none⟩) 0 0) 0 []) := row_empty Eu2.out (Nat.le_refl _)
          refine stepApp rfl (.tmp 20) (.tmp 22) 22 22 rfl W.heap.size 3 i0 (.int .i64 0) 1 8 Try.underlying22 hi hz0 hz1 hz2 rfl (.slice (some ⟨W.heap.size, 0, none⟩) 0 0) _ _ rfl HRu.out _ m (intCells A) rfl (HSA.out _ Bu2.out) ?c3 ?c4 ?c5 ?_
          case c3 => unfold maxLen; omega
          case c4 => omega
          case c5 => exact Bu2.out.size
          intro vu3 u3 O G
          have Bu3 : Hid (Below W.heap.size W u3) := Bu2.out.grown G Bu2.out.size (fun y hy => (HRu.out.lt y hy).1)
          rw [Nat.zero_add, List.nil_append] at O
          have Xu3 : Hid (u3.heap[u1.heap.size]? = some (.cells #[.int .i64 x] 3 (0, 0))) := (G.block _ (Array.getElem?_eq_some_iff.1 Xu2.out).1 (fun e => by have h := Xu2.out.symm.trans (show u2.heap[u1.heap.size]? = some (.cells #[] 3 (0, 0)) from by rw [show u1.heap.size = W.heap.size by simpa [Value.ownBlock] using e]; exact Eu2.out); simp at h)).trans Xu2.out
          obtain ⟨au3, cu3, rfl⟩ := own_shape O
          have Ru3 := Lib.hid O
          clear O G
          refine hK.out _ _ (HS.out _ Bu3.out) (fun hHeld => ?_)
          clear hK K
          try simp only [Act.put]
          try simp only [List.setIfInBounds_toArray]
          refine wpAnyH_ready (rs := [9, 11]) (by kernel_rfl) (by simp) (AllReadyH.cons rfl (fun K hK => ?_) (AllReadyH.cons rfl (fun K hK => ?_) AllReadyH.nil))
          · refine stepApp rfl (.tmp 23) (.tmp 25) 22 22 rfl W.heap.size 3 i0 (.int .i64 0) 1 8 Try.underlying22 hi hz0 hz1 hz2 rfl (.slice au3 m cu3) _ _ rfl Ru3.out _ 1 (intCells [x]) rfl (srcOneX (cell_of_one Xu3.out)) ?c3 ?c4 ?c5 ?_
            case c3 => unfold maxLen; omega
            case c4 => omega
            case c5 => exact Bu3.out.size
            intro vu4 u4 O G
            have Bu4 : Hid (Below W.heap.size W u4) := Bu3.out.grown G Bu3.out.size (fun y hy => (Ru3.out.lt y hy).1)
            obtain ⟨au4, cu4, rfl⟩ := own_shape O
            have Ru4 := Lib.hid O
            clear O G
            refine hK.out _ _ (HS.out _ Bu4.out) (fun hHeld => ?_)
            clear hK K
            try simp only [Act.put]
            try simp only [List.setIfInBounds_toArray]
            first
              | (refine held_take 10 27 (v := ?_) rfl rfl (by kernel_rfl) (by kernel_rfl) (by kernel_rfl) (fun _ _ _ h => h) (by assumption) (by rfl) ?_ ?_; rotate_left; (focus (intro w hSw; obtain ⟨hS0, hS1⟩ := hSw; go_simp <;> with_reducible rfl)))
              | refine held_pass 10 27 rfl rfl (by kernel_rfl) (by kernel_rfl) (by kernel_rfl) (fun _ _ _ h => h) (by assumption) (by rfl) ?_
            simp only [Act.put]
            refine wpAnyH_ready (rs := [11]) (by kernel_rfl) (by simp) (AllReadyH.cons rfl (fun K hK => ?_) AllReadyH.nil)
            try simp only [Go.wp_at_succ, Go.wp_at_zero]
            go_simp
            refine hK.out _ _ (HS.out _ ?_) (fun hHeld => ?_)
            · exact Bu4.out.alloc Bu4.out.size _
            clear hK K
            try simp only [Act.put, List.setIfInBounds_toArray, List.set_cons_zero, List.set_cons_succ]
            obtain ⟨u5, hN⟩ : ∃ u, u = u4.alloc (.cells #[.int .i64 0, .slice none 0 0] 25) := ⟨_, rfl⟩
            rw [← hN] at hHeld ⊢
            have Bu5 : Hid (Below W.heap.size W u5) := by rw [hN]; exact Bu4.out.alloc Bu4.out.size _
            have Zu5 : Hid (u5.heap[u4.heap.size]? = some (.cells #[.int .i64 0, .slice none 0 0] 25 (0, 0))) := by rw [hN]; exact heap_alloc_new u4 _
            have Ru5 := Lib.hid (Ru4.out.alloc (.cells #[.int .i64 0, .slice none 0 0] 25))
            rw [← hN] at Ru5
            clear hN
            obtain ⟨y0, y1, z0, z1⟩ := (show ChT u5 u4.heap.size 0 (.slice none 0 0) from Zu5.out).cells
            obtain ⟨k1, k2⟩ := (show ChT u5 u4.heap.size 0 (.slice none 0 0) from Zu5.out).stored (ep' := ep + 1) (v' := .slice au4 (m + 1) cu4)
            have K1 := Lib.hid k1
            have K3 := Lib.hid (rowOnlyZ Ru5.out (show ChT u5 u4.heap.size 0 (.slice none 0 0) from Zu5.out) k2)
            have K4 := Lib.hid (k2.below Bu5.out (fun y hy => by subst hy; exact Bu4.out.size) Bu5.out.size)
            clear k1 k2
            refine wpAnyH_ready (rs := [12]) (by kernel_rfl) (by simp) (AllReadyH.cons rfl (fun K hK => ?_) AllReadyH.nil)
            try simp only [Go.wp_at_succ, Go.wp_at_zero]
            go_simp
            refine hK.out _ _ (HS.out _ K4.out) (fun hHeld => ?_)
            clear hK K
            try simp only [Act.put]
            refine wpAnyH_done (by kernel_rfl) ?_ _
            go_wp2
            go_meet
            case rel => exact ⟨_, au4, cu4, rfl, K1.out, K3.out, K4.out⟩
          · try simp only [Go.wp_at_succ, Go.wp_at_zero]
            go_simp
            refine hK.out _ _ (HS.out _ ?_) (fun hHeld => ?_)
            · exact Bu3.out.alloc Bu3.out.size _
            clear hK K
            try simp only [Act.put, List.setIfInBounds_toArray, List.set_cons_zero, List.set_cons_succ]
            obtain ⟨u4, hN⟩ : ∃ u, u = u3.alloc (.cells #[.int .i64 0, .slice none 0 0] 25) := ⟨_, rfl⟩
            rw [← hN] at hHeld ⊢
            have Bu4 : Hid (Below W.heap.size W u4) := by rw [hN]; exact Bu3.out.alloc Bu3.out.size _
            have Xu4 : Hid (u4.heap[u1.heap.size]? = some (.cells #[.int .i64 x] 3 (0, 0))) := by rw [hN]; exact alloc_keep _ Xu3.out
            have Zu4 : Hid (u4.heap[u3.heap.size]? = some (.cells #[.int .i64 0, .slice none 0 0] 25 (0, 0))) := by rw [hN]; exact heap_alloc_new u3 _
            have Ru4 := Lib.hid (Ru3.out.alloc (.cells #[.int .i64 0, .slice none 0 0] 25))
            rw [← hN] at Ru4
            clear hN
            refine wpAnyH_ready (rs := [9]) (by kernel_rfl) (by simp) (AllReadyH.cons rfl (fun K hK => ?_) AllReadyH.nil)
            refine stepApp rfl (.tmp 23) (.tmp 25) 22 22 rfl W.heap.size 3 i0 (.int .i64 0) 1 8 Try.underlying22 hi hz0 hz1 hz2 rfl (.slice au3 m cu3) _ _ rfl Ru4.out _ 1 (intCells [x]) rfl (srcOneX (cell_of_one Xu4.out)) ?c3 ?c4 ?c5 ?_
            case c3 => unfold maxLen; omega
            case c4 => omega
            case c5 => exact Bu4.out.size
            intro vu5 u5 O G
            have Bu5 : Hid (Below W.heap.size W u5) := Bu4.out.grown G Bu4.out.size (fun y hy => (Ru4.out.lt y hy).1)
            have Zu5 : Hid (u5.heap[u3.heap.size]? = some (.cells #[.int .i64 0, .slice none 0 0] 25 (0, 0))) := (G.block _ (Array.getElem?_eq_some_iff.1 Zu4.out).1 ((show ChT u4 u3.heap.size 0 (.slice none 0 0) from Zu4.out).not_row Ru4.out)).trans Zu4.out
            obtain ⟨au5, cu5, rfl⟩ := own_shape O
            have Ru5 := Lib.hid O
            clear O G
            refine hK.out _ _ (HS.out _ Bu5.out) (fun hHeld => ?_)
            clear hK K
            try simp only [Act.put]
            try simp only [List.setIfInBounds_toArray]
            first
              | (refine held_take 10 27 (v := ?_) rfl rfl (by kernel_rfl) (by kernel_rfl) (by kernel_rfl) (fun _ _ _ h => h) (by assumption) (by rfl) ?_ ?_; rotate_left; (focus (intro w hSw; obtain ⟨hS0, hS1⟩ := hSw; go_simp <;> with_reducible rfl)))
              | refine held_pass 10 27 rfl rfl (by kernel_rfl) (by kernel_rfl) (by kernel_rfl) (fun _ _ _ h => h) (by assumption) (by rfl) ?_
            simp only [Act.put]
            obtain ⟨y0, y1, z0, z1⟩ := (show ChT u5 u3.heap.size 0 (.slice none 0 0) from Zu5.out).cells
            obtain ⟨k1, k2⟩ := (show ChT u5 u3.heap.size 0 (.slice none 0 0) from Zu5.out).stored (ep' := ep + 1) (v' := .slice au5 (m + 1) cu5)
            have K1 := Lib.hid k1
            have K3 := Lib.hid (rowOnlyZ Ru5.out (show ChT u5 u3.heap.size 0 (.slice none 0 0) from Zu5.out) k2)
            have K4 := Lib.hid (k2.below Bu5.out (fun y hy => by subst hy; exact Bu3.out.size) Bu5.out.size)
            clear k1 k2
            refine wpAnyH_ready (rs := [12]) (by kernel_rfl) (by simp) (AllReadyH.cons rfl (fun K hK => ?_) AllReadyH.nil)
            try simp only [Go.wp_at_succ, Go.wp_at_zero]
            go_simp
            refine hK.out _ _ (HS.out _ K4.out) (fun hHeld => ?_)
            clear hK K
            try simp only [Act.put]
            refine wpAnyH_done (by kernel_rfl) ?_ _
            go_wp2
            go_meet
            case rel => exact ⟨_, au5, cu5, rfl, K1.out, K3.out, K4.out⟩
        · try simp only [Go.wp_at_succ, Go.wp_at_zero]
          go_simp
          refine hK.out _ _ (HS.out _ ?_) (fun hHeld => ?_)
          · exact Bu2.out.alloc Bu2.out.size _
          clear hK K
          try simp only [Act.put, List.setIfInBounds_toArray, List.set_cons_zero, List.set_cons_succ]
          obtain ⟨u3, hN⟩ : ∃ u, u = u2.alloc (.cells #[.int .i64 0, .slice none 0 0] 25) := ⟨_, rfl⟩
          rw [← hN] at hHeld ⊢
          have Bu3 : Hid (Below W.heap.size W u3) := by rw [hN]; exact Bu2.out.alloc Bu2.out.size _
          have Eu3 : Hid (u3.heap[W.heap.size]? = some (.cells #[] 3 (0, 0))) := by rw [hN]; exact alloc_keep _ Eu2.out
          have Xu3 : Hid (u3.heap[u1.heap.size]? = some (.cells #[.int .i64 x] 3 (0, 0))) := by rw [hN]; exact alloc_keep _ Xu2.out
          have Zu3 : Hid (u3.heap[u2.heap.size]? = some (.cells #[.int .i64 0, .slice none 0 0] 25 (0, 0))) := by rw [hN]; exact heap_alloc_new u2 _
          clear hN
          refine wpAnyH_ready (rs := [6]) (by kernel_rfl) (by simp) (AllReadyH.cons rfl (fun K hK => ?_) AllReadyH.nil)
          have HRu : Hid (u3.ownsRow W.heap.size 3 1 (.slice (some ⟨W.heap.size, 0, none⟩) 0 0) 0 []) := row_empty Eu3.out (Nat.le_refl _)
          refine stepApp rfl (.tmp 20) (.tmp 22) 22 22 rfl W.heap.size 3 i0 (.int .i64 0) 1 8 Try.underlying22 hi hz0 hz1 hz2 rfl (.slice (some ⟨W.heap.size, 0, none⟩) 0 0) _ _ rfl HRu.out _ m (intCells A) rfl (HSA.out _ Bu3.out) ?c3 ?c4 ?c5 ?_
          case c3 => unfold maxLen; omega
          case c4 => omega
          case c5 => exact Bu3.out.size
          intro vu4 u4 O G
          have Bu4 : Hid (Below W.heap.size W u4) := Bu3.out.grown G Bu3.out.size (fun y hy => (HRu.out.lt y hy).1)
          rw [Nat.zero_add, List.nil_append] at O
          have Xu4 : Hid (u4.heap[u1.heap.size]? = some (.cells #[.int .i64 x] 3 (0, 0))) := (G.block _ (Array.getElem?_eq_some_iff.1 Xu3.out).1 (fun e => by have h := Xu3.out.symm.trans (show u3.heap[u1.heap.size]? = some (.cells #[] 3 (0, 0)) from by rw [show u1.heap.size = W.heap.size by simpa [Value.ownBlock] using e]; exact Eu3.out); simp at h)).trans Xu3.out
          have Zu4 : Hid (u4.heap[u2.heap.size]? = some (.cells #[.int .i64 0, .slice none 0 0] 25 (0, 0))) := (G.block _ (Array.getElem?_eq_some_iff.1 Zu3.out).1 (fun e => by have h := Zu3.out.symm.trans (show u3.heap[u2.heap.size]? = some (.cells #[] 3 (0, 0)) from by rw [show u2.heap.size = W.heap.size by simpa [Value.ownBlock] using e]; exact Eu3.out); simp at h)).trans Zu3.out
          obtain ⟨au4, cu4, rfl⟩ := own_shape O
          have Ru4 := Lib.hid O
          clear O G
          refine hK.out _ _ (HS.out _ Bu4.out) (fun hHeld => ?_)
          clear hK K
          try simp only [Act.put]
          try simp only [List.setIfInBounds_toArray]
          refine wpAnyH_ready (rs := [9]) (by kernel_rfl) (by simp) (AllReadyH.cons rfl (fun K hK => ?_) AllReadyH.nil)
          refine stepApp rfl (.tmp 23) (.tmp 25) 22 22 rfl W.heap.size 3 i0 (.int .i64 0) 1 8 Try.underlying22 hi hz0 hz1 hz2 rfl (.slice au4 m cu4) _ _ rfl Ru4.out _ 1 (intCells [x]) rfl (srcOneX (cell_of_one Xu4.out)) ?c3 ?c4 ?c5 ?_
          case c3 => unfold maxLen; omega
          case c4 => omega
          case c5 => exact Bu4.out.size
          intro vu5 u5 O G
          have Bu5 : Hid (Below W.heap.size W u5) := Bu4.out.grown G Bu4.out.size (fun y hy => (Ru4.out.lt y hy).1)
          have Zu5 : Hid (u5.heap[u2.heap.size]? = some (.cells #[.int .i64 0, .slice none 0 0] 25 (0, 0))) := (G.block _ (Array.getElem?_eq_some_iff.1 Zu4.out).1 ((show ChT u4 u2.heap.size 0 (.slice none 0 0) from Zu4.out).not_row Ru4.out)).trans Zu4.out
          obtain ⟨au5, cu5, rfl⟩ := own_shape O
          have Ru5 := Lib.hid O
          clear O G
          refine hK.out _ _ (HS.out _ Bu5.out) (fun hHeld => ?_)
          clear hK K
          try simp only [Act.put]
          try simp only [List.setIfInBounds_toArray]
          first
            | (refine held_take 10 27 (v := ?_) rfl rfl (by kernel_rfl) (by kernel_rfl) (by kernel_rfl) (fun _ _ _ h => h) (by assumption) (by rfl) ?_ ?_; rotate_left; (focus (intro w hSw; obtain ⟨hS0, hS1⟩ := hSw; go_simp <;> with_reducible rfl)))
            | refine held_pass 10 27 rfl rfl (by kernel_rfl) (by kernel_rfl) (by kernel_rfl) (fun _ _ _ h => h) (by assumption) (by rfl) ?_
          simp only [Act.put]
          obtain ⟨y0, y1, z0, z1⟩ := (show ChT u5 u2.heap.size 0 (.slice none 0 0) from Zu5.out).cells
          obtain ⟨k1, k2⟩ := (show ChT u5 u2.heap.size 0 (.slice none 0 0) from Zu5.out).stored (ep' := ep + 1) (v' := .slice au5 (m + 1) cu5)
          have K1 := Lib.hid k1
          have K3 := Lib.hid (rowOnlyZ Ru5.out (show ChT u5 u2.heap.size 0 (.slice none 0 0) from Zu5.out) k2)
          have K4 := Lib.hid (k2.below Bu5.out (fun y hy => by subst hy; exact Bu2.out.size) Bu5.out.size)
          clear k1 k2
          refine wpAnyH_ready (rs := [12]) (by kernel_rfl) (by simp) (AllReadyH.cons rfl (fun K hK => ?_) AllReadyH.nil)
          try simp only [Go.wp_at_succ, Go.wp_at_zero]
          go_simp
          refine hK.out _ _ (HS.out _ K4.out) (fun hHeld => ?_)
          clear hK K
          try simp only [Act.put]
          refine wpAnyH_done (by kernel_rfl) ?_ _
          go_wp2
          go_meet
          case rel => exact ⟨_, au5, cu5, rfl, K1.out, K3.out, K4.out⟩
      · try simp only [Go.wp_at_succ, Go.wp_at_zero]
        go_simp
        refine hK.out _ _ (HS.out _ ?_) (fun hHeld => ?_)
        · exact Bu1.out.alloc Bu1.out.size _
        clear hK K
        try simp only [Act.put, List.setIfInBounds_toArray, List.set_cons_zero, List.set_cons_succ]
        obtain ⟨u2, hN⟩ : ∃ u, u = u1.alloc (.cells #[.int .i64 0, .slice none 0 0] 25) := ⟨_, rfl⟩
        rw [← hN] at hHeld ⊢
        have Bu2 : Hid (Below W.heap.size W u2) := by rw [hN]; exact Bu1.out.alloc Bu1.out.size _
        have Eu2 : Hid (u2.heap[W.heap.size]? = some (.cells #[] 3 (0, 0))) := by rw [hN]; exact alloc_keep _ Eu1.out
        have Zu2 : Hid (u2.heap[u1.heap.size]? = some (.cells #[.int .i64 0, .slice none 0 0] 25 (0, 0))) := by rw [hN]; exact heap_alloc_new u1 _
        clear hN
        refine wpAnyH_ready (rs := [6, 8]) (by kernel_rfl) (by simp) (AllReadyH.cons rfl (fun K hK => ?_) (AllReadyH.cons rfl (fun K hK => ?_) AllReadyH.nil))
        · have HRu : Hid (u2.ownsRow W.heap.size 3 1 (.slice (some ⟨W.heap.size, 0, none⟩) 0 0) 0 []) := row_empty Eu2.out (Nat.le_refl _)
          refine stepApp rfl (.tmp 20) (.tmp 22) 22 22 rfl W.heap.size 3 i0 (.int .i64 0) 1 8 Try.underlying22 hi hz0 hz1 hz2 rfl (.slice (some ⟨W.heap.size, 0, none⟩) 0 0) _ _ rfl HRu.out _ m (intCells A) rfl (HSA.out _ Bu2.out) ?c3 ?c4 ?c5 ?_
          case c3 => unfold maxLen; omega
          case c4 => omega
          case c5 => exact Bu2.out.size
          intro vu3 u3 O G
          have Bu3 : Hid (Below W.heap.size W u3) := Bu2.out.grown G Bu2.out.size (fun y hy => (HRu.out.lt y hy).1)
          rw [Nat.zero_add, List.nil_append] at O
          have Zu3 : Hid (u3.heap[u1.heap.size]? = some (.cells #[.int .i64 0, .slice none 0 0] 25 (0, 0))) := (G.block _ (Array.getElem?_eq_some_iff.1 Zu2.out).1 (fun e => by have h := Zu2.out.symm.trans (show u2.heap[u1.heap.size]? = some (.cells #[] 3 (0, 0)) from by rw [show u1.heap.size = W.heap.size by simpa [Value.ownBlock] using e]; exact Eu2.out); simp at h)).trans Zu2.out
          obtain ⟨au3, cu3, rfl⟩ := own_shape O
          have Ru3 := Lib.hid O
          clear O G
          refine hK.out _ _ (HS.out _ Bu3.out) (fun hHeld => ?_)
          clear hK K
          try simp only [Act.put]
          try simp only [List.setIfInBounds_toArray]
          refine wpAnyH_ready (rs := [8]) (by kernel_rfl) (by simp) (AllReadyH.cons rfl (fun K hK => ?_) AllReadyH.nil)
          try simp only [Go.wp_at_succ, Go.wp_at_zero]
          go_simp
          refine hK.out _ _ (HS.out _ ?_) (fun hHeld => ?_)
          · exact Bu3.out.alloc Bu3.out.size _
          clear hK K
          try simp only [Act.put, List.setIfInBounds_toArray, List.set_cons_zero, List.set_cons_succ]
          obtain ⟨u4, hN⟩ : ∃ u, u = u3.alloc (.cells #[.int .i64 x] 3) := ⟨_, rfl⟩
          rw [← hN] at hHeld ⊢
          have Bu4 : Hid (Below W.heap.size W u4) := by rw [hN]; exact Bu3.out.alloc Bu3.out.size _
          have Zu4 : Hid (u4.heap[u1.heap.size]? = some (.cells #[.int .i64 0, .slice none 0 0] 25 (0, 0))) := by rw [hN]; exact alloc_keep _ Zu3.out
          have Xu4 : Hid (u4.heap[u3.heap.size]? = some (.cells #[.int .i64 x] 3 (0, 0))) := by rw [hN]; exact heap_alloc_new u3 _
          have Ru4 := Lib.hid (Ru3.out.alloc (.cells #[.int .i64 x] 3))
          rw [← hN] at Ru4
          clear hN
          refine wpAnyH_ready (rs := [9]) (by kernel_rfl) (by simp) (AllReadyH.cons rfl (fun K hK => ?_) AllReadyH.nil)
          refine stepApp rfl (.tmp 23) (.tmp 25) 22 22 rfl W.heap.size 3 i0 (.int .i64 0) 1 8 Try.underlying22 hi hz0 hz1 hz2 rfl (.slice au3 m cu3) _ _ rfl Ru4.out _ 1 (intCells [x]) rfl (srcOneX (cell_of_one Xu4.out)) ?c3 ?c4 ?c5 ?_
          case c3 => unfold maxLen; omega
          case c4 => omega
          case c5 => exact Bu4.out.size
          intro vu5 u5 O G
          have Bu5 : Hid (Below W.heap.size W u5) := Bu4.out.grown G Bu4.out.size (fun y hy => (Ru4.out.lt y hy).1)
          have Zu5 : Hid (u5.heap[u1.heap.size]? = some (.cells #[.int .i64 0, .slice none 0 0] 25 (0, 0))) := (G.block _ (Array.getElem?_eq_some_iff.1 Zu4.out).1 ((show ChT u4 u1.heap.size 0 (.slice none 0 0) from Zu4.out).not_row Ru4.out)).trans Zu4.out
          obtain ⟨au5, cu5, rfl⟩ := own_shape O
          have Ru5 := Lib.hid O
          clear O G
          refine hK.out _ _ (HS.out _ Bu5.out) (fun hHeld => ?_)
          clear hK K
          try simp only [Act.put]
          try simp only [List.setIfInBounds_toArray]
          first
            | (refine held_take 10 27 (v := ?_) rfl rfl (by kernel_rfl) (by kernel_rfl) (by kernel_rfl) (fun _ _ _ h => h) (by assumption) (by rfl) ?_ ?_; rotate_left; (focus (intro w hSw; obtain ⟨hS0, hS1⟩ := hSw; go_simp <;> with_reducible rfl)))
            | refine held_pass 10 27 rfl rfl (by kernel_rfl) (by kernel_rfl) (by kernel_rfl) (fun _ _ _ h => h) (by assumption) (by rfl) ?_
          simp only [Act.put]
          obtain ⟨y0, y1, z0, z1⟩ := (show ChT u5 u1.heap.size 0 (.slice none 0 0) from Zu5.out).cells
          obtain ⟨k1, k2⟩ := (show ChT u5 u1.heap.size 0 (.slice none 0 0) from Zu5.out).stored (ep' := ep + 1) (v' := .slice au5 (m + 1) cu5)
          have K1 := Lib.hid k1
          have K3 := Lib.hid (rowOnlyZ Ru5.out (show ChT u5 u1.heap.size 0 (.slice none 0 0) from Zu5.out) k2)
          have K4 := Lib.hid (k2.below Bu5.out (fun y hy => by subst hy; exact Bu1.out.size) Bu5.out.size)
          clear k1 k2
          refine wpAnyH_ready (rs := [12]) (by kernel_rfl) (by simp) (AllReadyH.cons rfl (fun K hK => ?_) AllReadyH.nil)
          try simp only [Go.wp_at_succ, Go.wp_at_zero]
          go_simp
          refine hK.out _ _ (HS.out _ K4.out) (fun hHeld => ?_)
          clear hK K
          try simp only [Act.put]
          refine wpAnyH_done (by kernel_rfl) ?_ _
          go_wp2
          go_meet
          case rel => exact ⟨_, au5, cu5, rfl, K1.out, K3.out, K4.out⟩
        · try simp only [Go.wp_at_succ, Go.wp_at_zero]
          go_simp
          refine hK.out _ _ (HS.out _ ?_) (fun hHeld => ?_)
          · exact Bu2.out.alloc Bu2.out.size _
          clear hK K
          try simp only [Act.put, List.setIfInBounds_toArray, List.set_cons_zero, List.set_cons_succ]
          obtain ⟨u3, hN⟩ : ∃ u, u = u2.alloc (.cells #[.int .i64 x] 3) := ⟨_, rfl⟩
          rw [← hN] at hHeld ⊢
          have Bu3 : Hid (Below W.heap.size W u3) := by rw [hN]; exact Bu2.out.alloc Bu2.out.size _
          have Eu3 : Hid (u3.heap[W.heap.size]? = some (.cells #[] 3 (0, 0))) := by rw [hN]; exact alloc_keep _ Eu2.out
          have Zu3 : Hid (u3.heap[u1.heap.size]? = some (.cells #[.int .i64 0, .slice none 0 0] 25 (0, 0))) := by rw [hN]; exact alloc_keep _ Zu2.out
          have Xu3 : Hid (u3.heap[u2.heap.size]? = some (.cells #[.int .i64 x] 3 (0, 0))) := by rw [hN]; exact heap_alloc_new u2 _
          clear hN
          refine wpAnyH_ready (rs := [6]) (by kernel_rfl) (by simp) (AllReadyH.cons rfl (fun K hK => ?_) AllReadyH.nil)
          have HRu : Hid (u3.ownsRow W.heap.size 3 1 (.slice (some ⟨W.heap.size, 0, none⟩) 0 0) 0 []) := row_empty Eu3.out (Nat.le_refl _)
          refine stepApp rfl (.tmp 20) (.tmp 22) 22 22 rfl W.heap.size 3 i0 (.int .i64 0) 1 8 Try.underlying22 hi hz0 hz1 hz2 rfl (.slice (some ⟨W.heap.size, 0, none⟩) 0 0) _ _ rfl HRu.out _ m (intCells A) rfl (HSA.out _ Bu3.out) ?c3 ?c4 ?c5 ?_
          case c3 => unfold maxLen; omega
          case c4 => omega
          case c5 => exact Bu3.out.size
          intro vu4 u4 O G
          have Bu4 : Hid (Below W.heap.size W u4) := Bu3.out.grown G Bu3.out.size (fun y hy => (HRu.out.lt y hy).1)
          rw [Nat.zero_add, List.nil_append] at O
          have Zu4 : Hid (u4.heap[u1.heap.size]? = some (.cells #[.int .i64 0, .slice none 0 0] 25 (0, 0))) := (G.block _ (Array.getElem?_eq_some_iff.1 Zu3.out).1 (fun e => by have h := Zu3.out.symm.trans (show u3.heap[u1.heap.size]? = some (.cells #[] 3 (0, 0)) from by rw [show u1.heap.size = W.heap.size by simpa [Value.ownBlock] using e]; exact Eu3.out); simp at h)).trans Zu3.out
          have Xu4 : Hid (u4.heap[u2.heap.size]? = some (.cells #[.int .i64 x] 3 (0, 0))) := (G.block _ (Array.getElem?_eq_some_iff.1 Xu3.out).1 (fun e => by have h := Xu3.out.symm.trans (show u3.heap[u2.heap.size]? = some (.cells #[] 3 (0, 0)) from by rw [show u2.heap.size = W.heap.size by simpa [Value.ownBlock] using e]; exact Eu3.out); simp at h)).trans Xu3.out
          obtain ⟨au4, cu4, rfl⟩ := own_shape O
          have Ru4 := Lib.hid O
          clear O G
          refine hK.out _ _ (HS.out _ Bu4.out) (fun hHeld => ?_)
          clear hK K
          try simp only [Act.put]
          try simp only [List.setIfInBounds_toArray]
          refine wpAnyH_ready (rs := [9]) (by kernel_rfl) (by simp) (AllReadyH.cons rfl (fun K hK => ?_) AllReadyH.nil)
          refine stepApp rfl (.tmp 23) (.tmp 25) 22 22 rfl W.heap.size 3 i0 (.int .i64 0) 1 8 Try.underlying22 hi hz0 hz1 hz2 rfl (.slice au4 m cu4) _ _ rfl Ru4.out _ 1 (intCells [x]) rfl (srcOneX (cell_of_one Xu4.out)) ?c3 ?c4 ?c5 ?_
          case c3 => unfold maxLen; omega
          case c4 => omega
          case c5 => exact Bu4.out.size
          intro vu5 u5 O G
          have Bu5 : Hid (Below W.heap.size W u5) := Bu4.out.grown G Bu4.out.size (fun y hy => (Ru4.out.lt y hy).1)
          have Zu5 : Hid (u5.heap[u1.heap.size]? = some (.cells #[.int .i64 0, .slice none 0 0] 25 (0, 0))) := (G.block _ (Array.getElem?_eq_some_iff.1 Zu4.out).1 ((show ChT u4 u1.heap.size 0 (.slice none 0 0) from Zu4.out).not_row Ru4.out)).trans Zu4.out
          obtain ⟨au5, cu5, rfl⟩ := own_shape O
          have Ru5 := Lib.hid O
          clear O G
          refine hK.out _ _ (HS.out _ Bu5.out) (fun hHeld => ?_)
          clear hK K
          try simp only [Act.put]
          try simp only [List.setIfInBounds_toArray]
          first
            | (refine held_take 10 27 (v := ?_) rfl rfl (by kernel_rfl) (by kernel_rfl) (by kernel_rfl) (fun _ _ _ h => h) (by assumption) (by rfl) ?_ ?_; rotate_left; (focus (intro w hSw; obtain ⟨hS0, hS1⟩ := hSw; go_simp <;> with_reducible rfl)))
            | refine held_pass 10 27 rfl rfl (by kernel_rfl) (by kernel_rfl) (by kernel_rfl) (fun _ _ _ h => h) (by assumption) (by rfl) ?_
          simp only [Act.put]
          obtain ⟨y0, y1, z0, z1⟩ := (show ChT u5 u1.heap.size 0 (.slice none 0 0) from Zu5.out).cells
          obtain ⟨k1, k2⟩ := (show ChT u5 u1.heap.size 0 (.slice none 0 0) from Zu5.out).stored (ep' := ep + 1) (v' := .slice au5 (m + 1) cu5)
          have K1 := Lib.hid k1
          have K3 := Lib.hid (rowOnlyZ Ru5.out (show ChT u5 u1.heap.size 0 (.slice none 0 0) from Zu5.out) k2)
          have K4 := Lib.hid (k2.below Bu5.out (fun y hy => by subst hy; exact Bu1.out.size) Bu5.out.size)
          clear k1 k2
          refine wpAnyH_ready (rs := [12]) (by kernel_rfl) (by simp) (AllReadyH.cons rfl (fun K hK => ?_) AllReadyH.nil)
          try simp only [Go.wp_at_succ, Go.wp_at_zero]
          go_simp
          refine hK.out _ _ (HS.out _ K4.out) (fun hHeld => ?_)
          clear hK K
          try simp only [Act.put]
          refine wpAnyH_done (by kernel_rfl) ?_ _
          go_wp2
          go_meet
          case rel => exact ⟨_, au5, cu5, rfl, K1.out, K3.out, K4.out⟩
    · try simp only [Go.wp_at_succ, Go.wp_at_zero]
      go_simp
      refine hK.out _ _ (HS.out _ ?_) (fun hHeld => ?_)
      · show Below W.heap.size W _; go_grown
      clear hK K
      try simp only [Act.put, List.setIfInBounds_toArray, List.set_cons_zero, List.set_cons_succ]
      obtain ⟨u1, hN⟩ : ∃ u, u = (W.alloc (.cells #[.int .i64 x] 3)).drew := ⟨_, rfl⟩
      rw [← hN] at hHeld ⊢
      have Bu1 : Hid (Below W.heap.size W u1) := by rw [hN]; exact ((Below.refl _ W).alloc (Nat.le_refl _) _).drew
      have Xu1 : Hid (u1.heap[W.heap.size]? = some (.cells #[.int .i64 x] 3 (0, 0))) := by rw [hN]; exact heap_alloc_new W _
      clear hN
      refine wpAnyH_ready (rs := [3, 11]) (by kernel_rfl) (by simp) (AllReadyH.cons rfl (fun K hK => ?_) (AllReadyH.cons rfl (fun K hK => ?_) AllReadyH.nil))
      · try simp only [Go.wp_at_succ, Go.wp_at_zero]
        go_simp
        refine hK.out _ _ (HS.out _ ?_) (fun hHeld => ?_)
        · exact Bu1.out.alloc Bu1.out.size _
        clear hK K
        try simp only [Act.put, List.setIfInBounds_toArray, List.set_cons_zero, List.set_cons_succ]
        obtain ⟨u2, hN⟩ : ∃ u, u = u1.alloc (.cells #[] 3) := ⟨_, rfl⟩
        rw [← hN] at hHeld ⊢
        have Bu2 : Hid (Below W.heap.size W u2) := by rw [hN]; exact Bu1.out.alloc Bu1.out.size _
        have Xu2 : Hid (u2.heap[W.heap.size]? = some (.cells #[.int .i64 x] 3 (0, 0))) := by rw [hN]; exact alloc_keep _ Xu1.out
        have Eu2 : Hid (u2.heap[u1.heap.size]? = some (.cells #[] 3 (0, 0))) := by rw [hN]; exact heap_alloc_new u1 _
        clear hN
        refine wpAnyH_ready (rs := [6, 11]) (by kernel_rfl) (by simp) (AllReadyH.cons rfl (fun K hK => ?_) (AllReadyH.cons rfl (fun K hK => ?_) AllReadyH.nil))
        · have HRu : Hid (u2.ownsRow W.heap.size 3 1 (.slice (some ⟨u1.heap.size, 0, none⟩) 0 0) 0 []) := row_empty Eu2.out (Bu1.out.size)
          refine stepApp rfl (.tmp 20) (.tmp 22) 22 22 rfl W.heap.size 3 i0 (.int .i64 0) 1 8 Try.underlying22 hi hz0 hz1 hz2 rfl (.slice (some ⟨u1.heap.size, 0, none⟩) 0 0) _ _ rfl HRu.out _ m (intCells A) rfl (HSA.out _ Bu2.out) ?c3 ?c4 ?c5 ?_
          case c3 => unfold maxLen; omega
          case c4 => omega
          case c5 => exact Bu2.out.size
          intro vu3 u3 O G
          have Bu3 : Hid (Below W.heap.size W u3) := Bu2.out.grown G Bu2.out.size (fun y hy => (HRu.out.lt y hy).1)
          rw [Nat.zero_add, List.nil_append] at O
          have Xu3 : Hid (u3.heap[W.heap.size]? = some (.cells #[.int .i64 x] 3 (0, 0))) := (G.block _ (Array.getElem?_eq_some_iff.1 Xu2.out).1 (fun e => by have h := Xu2.out.symm.trans (show u2.heap[W.heap.size]? = some (.cells #[] 3 (0, 0)) from by rw [show W.heap.size = u1.heap.size by simpa [Value.ownBlock] using e]; exact Eu2.out); simp at h)).trans Xu2.out
          obtain ⟨au3, cu3, rfl⟩ := own_shape O
          have Ru3 := Lib.hid O
          clear O G
          refine hK.out _ _ (HS.out _ Bu3.out) (fun hHeld => ?_)
          clear hK K
          try simp only [Act.put]
          try simp only [List.setIfInBounds_toArray]
          refine wpAnyH_ready (rs := [9, 11]) (by kernel_rfl) (by simp) (AllReadyH.cons rfl (fun K hK => ?_) (AllReadyH.cons rfl (fun K hK => ?_) AllReadyH.nil))
          · refine stepApp rfl (.tmp 23) (.tmp 25) 22 22 rfl W.heap.size 3 i0 (.int .i64 0) 1 8 Try.underlying22 hi hz0 hz1 hz2 rfl (.slice au3 m cu3) _ _ rfl Ru3.out _ 1 (intCells [x]) rfl (srcOneX (cell_of_one Xu3.out)) ?c3 ?c4 ?c5 ?_
            case c3 => unfold maxLen; omega
            case c4 => omega
            case c5 => exact Bu3.out.size
            intro vu4 u4 O G
            have Bu4 : Hid (Below W.heap.size W u4) := Bu3.out.grown G Bu3.out.size (fun y hy => (Ru3.out.lt y hy).1)
            obtain ⟨au4, cu4, rfl⟩ := own_shape O
            have Ru4 := Lib.hid O
            clear O G
            refine hK.out _ _ (HS.out _ Bu4.out) (fun hHeld => ?_)
            clear hK K
            try simp only [Act.put]
            try simp only [List.setIfInBounds_toArray]
            first
              | (refine held_take 10 27 (v := ?_) rfl rfl (by kernel_rfl) (by kernel_rfl) (by kernel_rfl) (fun _ _ _ h => h) (by assumption) (by rfl) ?_ ?_; rotate_left; (focus (intro w hSw; obtain ⟨hS0, hS1⟩ := hSw; go_simp <;> with_reducible rfl)))
              | refine held_pass 10 27 rfl rfl (by kernel_rfl) (by kernel_rfl) (by kernel_rfl) (fun _ _ _ h => h) (by assumption) (by rfl) ?_
            simp only [Act.put]
            refine wpAnyH_ready (rs := [11]) (by kernel_rfl) (by simp) (AllReadyH.cons rfl (fun K hK => ?_) AllReadyH.nil)
            try simp only [Go.wp_at_succ, Go.wp_at_zero]
            go_simp
            refine hK.out _ _ (HS.out _ ?_) (fun hHeld => ?_)
            · exact Bu4.out.alloc Bu4.out.size _
            clear hK K
            try simp only [Act.put, List.setIfInBounds_toArray, List.set_cons_zero, List.set_cons_succ]
            obtain ⟨u5, hN⟩ : ∃ u, u = u4.alloc (.cells #[.int .i64 0, .slice none 0 0] 25) := ⟨_, rfl⟩
            rw [← hN] at hHeld ⊢
            have Bu5 : Hid (Below W.heap.size W u5) := by rw [hN]; exact Bu4.out.alloc Bu4.out.size _
            have Zu5 : Hid (u5.heap[u4.heap.size]? = some (.cells #[.int .i64 0, .slice none 0 0] 25 (0, 0))) := by rw [hN]; exact heap_alloc_new u4 _
            have Ru5 := Lib.hid (Ru4.out.alloc (.cells #[.int .i64 0, .slice none 0 0] 25))
            rw [← hN] at Ru5
            clear hN
            obtain ⟨y0, y1, z0, z1⟩ := (show ChT u5 u4.heap.size 0 (.slice none 0 0) from Zu5.out).cells
            obtain ⟨k1, k2⟩ := (show ChT u5 u4.heap.size 0 (.slice none 0 0) from Zu5.out).stored (ep' := ep + 1) (v' := .slice au4 (m + 1) cu4)
            have K1 := Lib.hid k1
            have K3 := Lib.hid (rowOnlyZ Ru5.out (show ChT u5 u4.heap.size 0 (.slice none 0 0) from Zu5.out) k2)
            have K4 := Lib.hid (k2.below Bu5.out (fun y hy => by subst hy; exact Bu4.out.size) Bu5.out.size)
            clear k1 k2
            refine wpAnyH_ready (rs := [12]) (by kernel_rfl) (by simp) (AllReadyH.cons rfl (fun K hK => ?_) AllReadyH.nil)
            try simp only [Go.wp_at_succ, Go.wp_at_zero]
            go_simp
            refine hK.out _ _ (HS.out _ K4.out) (fun hHeld => ?_)
            clear hK K
            try simp only [Act.put]
            refine wpAnyH_done (by kernel_rfl) ?_ _
            go_wp2
            go_meet
            case rel => exact ⟨_, au4, cu4, rfl, K1.out, K3.out, K4.out⟩
          · try simp only [Go.wp_at_succ, Go.wp_at_zero]
            go_simp
            refine hK.out _ _ (HS.out _ ?_) (fun hHeld => ?_)
            · exact Bu3.out.alloc Bu3.out.size _
            clear hK K
            try simp only [Act.put, List.setIfInBounds_toArray, List.set_cons_zero, List.set_cons_succ]
            obtain ⟨u4, hN⟩ : ∃ u, u = u3.alloc (.cells #[.int .i64 0, .slice none 0 0] 25) := ⟨_, rfl⟩
            rw [← hN] at hHeld ⊢
            have Bu4 : Hid (Below W.heap.size W u4) := by rw [hN]; exact Bu3.out.alloc Bu3.out.size _
            have Xu4 : Hid (u4.heap[W.heap.size]? = some (.cells #[.int .i64 x] 3 (0, 0))) := by rw [hN]; exact alloc_keep _ Xu3.out
            have Zu4 : Hid (u4.heap[u3.heap.size]? = some (.cells #[.int .i64 0, .slice none 0 0] 25 (0, 0))) := by rw [hN]; exact heap_alloc_new u3 _
            have Ru4 := Lib.hid (Ru3.out.alloc (.cells #[.int .i64 0, .slice none 0 0] 25))
            rw [← hN] at Ru4
            clear hN
            refine wpAnyH_ready (rs := [9]) (by kernel_rfl) (by simp) (AllReadyH.cons rfl (fun K hK => ?_) AllReadyH.nil)
            refine stepApp rfl (.tmp 23) (.tmp 25) 22 22 rfl W.heap.size 3 i0 (.int .i64 0) 1 8 Try.underlying22 hi hz0 hz1 hz2 rfl (.slice au3 m cu3) _ _ rfl Ru4.out _ 1 (intCells [x]) rfl (srcOneX (cell_of_one Xu4.out)) ?c3 ?c4 ?c5 ?_
            case c3 => unfold maxLen; omega
            case c4 => omega
            case c5 => exact Bu4.out.size
            intro vu5 u5 O G
            have Bu5 : Hid (Below W.heap.size W u5) := Bu4.out.grown G Bu4.out.size (fun y hy => (Ru4.out.lt y hy).1)
            have Zu5 : Hid (u5.heap[u3.heap.size]? = some (.cells #[.int .i64 0, .slice none 0 0] 25 (0, 0))) := (G.block _ (Array.getElem?_eq_some_iff.1 Zu4.out).1 ((show ChT u4 u3.heap.size 0 (.slice none 0 0) from Zu4.out).not_row Ru4.out)).trans Zu4.out
            obtain ⟨au5, cu5, rfl⟩ := own_shape O
            have Ru5 := Lib.hid O
            clear O G
            refine hK.out _ _ (HS.out _ Bu5.out) (fun hHeld => ?_)
            clear hK K
            try simp only [Act.put]
            try simp only [List.setIfInBounds_toArray]
            first
              | (refine held_take 10 27 (v := ?_) rfl rfl (by kernel_rfl) (by kernel_rfl) (by kernel_rfl) (fun _ _ _ h => h) (by assumption) (by rfl) ?_ ?_; rotate_left; (focus (intro w hSw; obtain ⟨hS0, hS1⟩ := hSw; go_simp <;> with_reducible rfl)))
              | refine held_pass 10 27 rfl rfl (by kernel_rfl) (by kernel_rfl) (by kernel_rfl) (fun _ _ _ h => h) (by assumption) (by rfl) ?_
            simp only [Act.put]
            obtain ⟨y0, y1, z0, z1⟩ := (show ChT u5 u3.heap.size 0 (.slice none 0 0) from Zu5.out).cells
            obtain ⟨k1, k2⟩ := (show ChT u5 u3.heap.size 0 (.slice none 0 0) from Zu5.out).stored (ep' := ep + 1) (v' := .slice au5 (m + 1) cu5)
            have K1 := Lib.hid k1
            have K3 := Lib.hid (rowOnlyZ Ru5.out (show ChT u5 u3.heap.size 0 (.slice none 0 0) from Zu5.out) k2)
            have K4 := Lib.hid (k2.below Bu5.out (fun y hy => by subst hy; exact Bu3.out.size) Bu5.out.size)
            clear k1 k2
            refine wpAnyH_ready (rs := [12]) (by kernel_rfl) (by simp) (AllReadyH.cons rfl (fun K hK => ?_) AllReadyH.nil)
            try simp only [Go.wp_at_succ, Go.wp_at_zero]
            go_simp
            refine hK.out _ _ (HS.out _ K4.out) (fun hHeld => ?_)
            clear hK K
            try simp only [Act.put]
            refine wpAnyH_done (by kernel_rfl) ?_ _
            go_wp2
            go_meet
            case rel => exact ⟨_, au5, cu5, rfl, K1.out, K3.out, K4.out⟩
        · try simp only [Go.wp_at_succ, Go.wp_at_zero]
          go_simp
          refine hK.out _ _ (HS.out _ ?_) (fun hHeld => ?_)
          · exact Bu2.out.alloc Bu2.out.size _
          clear hK K
          try simp only [Act.put, List.setIfInBounds_toArray, List.set_cons_zero, List.set_cons_succ]
          obtain ⟨u3, hN⟩ : ∃ u, u = u2.alloc (.cells #[.int .i64 0, .slice none 0 0] 25) := ⟨_, rfl⟩
          rw [← hN] at hHeld ⊢
          have Bu3 : Hid (Below W.heap.size W u3) := by rw [hN]; exact Bu2.out.alloc Bu2.out.size _
          have Xu3 : Hid (u3.heap[W.heap.size]? = some (.cells #[.int .i64 x] 3 (0, 0))) := by rw [hN]; exact alloc_keep _ Xu2.out
          have Eu3 : Hid (u3.heap[u1.heap.size]? = some (.cells #[] 3 (0, 0))) := by rw [hN]; exact alloc_keep _ Eu2.out
          have Zu3 : Hid (u3.heap[u2.heap.size]? = some (.cells #[.int .i64 0, .slice none 0 0] 25 (0, 0))) := by rw [hN]; exact heap_alloc_new u2 _
          clear hN
          refine wpAnyH_ready (rs := [6]) (by kernel_rfl) (by simp) (AllReadyH.cons rfl (fun K hK => ?_) AllReadyH.nil)
          have HRu : Hid (u3.ownsRow W.heap.size 3 1 (.slice (some ⟨u1.heap.size, 0, none⟩) 0 0) 0 []) := row_empty Eu3.out (Bu1.out.size)
          refine stepApp rfl (.tmp 20) (.tmp 22) 22 22 rfl W.heap.size 3 i0 (.int .i64 0) 1 8 Try.underlying22 hi hz0 hz1 hz2 rfl (.slice (some ⟨u1.heap.size, 0, none⟩) 0 0) _ _ rfl HRu.out _ m (intCells A) rfl (HSA.out _ Bu3.out) ?c3 ?c4 ?c5 ?_
          case c3 => unfold maxLen; omega
          case c4 => omega
          case c5 => exact Bu3.out.size
          intro vu4 u4 O G
          have Bu4 : Hid (Below W.heap.size W u4) := Bu3.out.grown G Bu3.out.size (fun y hy => (HRu.out.lt y hy).1)
          rw [Nat.zero_add, List.nil_append] at O
          have Xu4 : Hid (u4.heap[W.heap.size]? = some (.cells #[.int .i64 x] 3 (0, 0))) := (G.block _ (Array.getElem?_eq_some_iff.1 Xu3.out).1 (fun e => by have h := Xu3.out.symm.trans (show u3.heap[W.heap.size]? = some (.cells #[] 3 (0, 0)) from by rw [show W.heap.size = u1.heap.size by simpa [Value.ownBlock] using e]; exact Eu3.out); simp at h)).trans Xu3.out
          have Zu4 : Hid (u4.heap[u2.heap.size]? = some (.cells #[.int .i64 0, .slice none 0 0] 25 (0, 0))) := (G.block _ (Array.getElem?_eq_some_iff.1 Zu3.out).1 (fun e => by have h := Zu3.out.symm.trans (show u3.heap[u2.heap.size]? = some (.cells #[] 3 (0, 0)) from by rw [show u2.heap.size = u1.heap.size by simpa [Value.ownBlock] using e]; exact Eu3.out); simp at h)).trans Zu3.out
          obtain ⟨au4, cu4, rfl⟩ := own_shape O
          have Ru4 := Lib.hid O
          clear O G
          refine hK.out _ _ (HS.out _ Bu4.out) (fun hHeld => ?_)
          clear hK K
          try simp only [Act.put]
          try simp only [List.setIfInBounds_toArray]
          refine wpAnyH_ready (rs := [9]) (by kernel_rfl) (by simp) (AllReadyH.cons rfl (fun K hK => ?_) AllReadyH.nil)
          refine stepApp rfl (.tmp 23) (.tmp 25) 22 22 rfl W.heap.size 3 i0 (.int .i64 0) 1 8 Try.underlying22 hi hz0 hz1 hz2 rfl (.slice au4 m cu4) _ _ rfl Ru4.out _ 1 (intCells [x]) rfl (srcOneX (cell_of_one Xu4.out)) ?c3 ?c4 ?c5 ?_
          case c3 => unfold maxLen; omega
          case c4 => omega
          case c5 => exact Bu4.out.size
          intro vu5 u5 O G
          have Bu5 : Hid (Below W.heap.size W u5) := Bu4.out.grown G Bu4.out.size (fun y hy => (Ru4.out.lt y hy).1)
          have Zu5 : Hid (u5.heap[u2.heap.size]? = some (.cells #[.int .i64 0, .slice none 0 0] 25 (0, 0))) := (G.block _ (Array.getElem?_eq_some_iff.1 Zu4.out).1 ((show ChT u4 u2.heap.size 0 (.slice none 0 0) from Zu4.out).not_row Ru4.out)).trans Zu4.out
          obtain ⟨au5, cu5, rfl⟩ := own_shape O
          have Ru5 := Lib.hid O
          clear O G
          refine hK.out _ _ (HS.out _ Bu5.out) (fun hHeld => ?_)
          clear hK K
          try simp only [Act.put]
          try simp only [List.setIfInBounds_toArray]
          first
            | (refine held_take 10 27 (v := ?_) rfl rfl (by kernel_rfl) (by kernel_rfl) (by kernel_rfl) (fun _ _ _ h => h) (by assumption) (by rfl) ?_ ?_; rotate_left; (focus (intro w hSw; obtain ⟨hS0, hS1⟩ := hSw; go_simp <;> with_reducible rfl)))
            | refine held_pass 10 27 rfl rfl (by kernel_rfl) (by kernel_rfl) (by kernel_rfl) (fun _ _ _ h => h) (by assumption) (by rfl) ?_
          simp only [Act.put]
          obtain ⟨y0, y1, z0, z1⟩ := (show ChT u5 u2.heap.size 0 (.slice none 0 0) from Zu5.out).cells
          obtain ⟨k1, k2⟩ := (show ChT u5 u2.heap.size 0 (.slice none 0 0) from Zu5.out).stored (ep' := ep + 1) (v' := .slice au5 (m + 1) cu5)
          have K1 := Lib.hid k1
          have K3 := Lib.hid (rowOnlyZ Ru5.out (show ChT u5 u2.heap.size 0 (.slice none 0 0) from Zu5.out) k2)
          have K4 := Lib.hid (k2.below Bu5.out (fun y hy => by subst hy; exact Bu2.out.size) Bu5.out.size)
          clear k1 k2
          refine wpAnyH_ready (rs := [12]) (by kernel_rfl) (by simp) (AllReadyH.cons rfl (fun K hK => ?_) AllReadyH.nil)
          try simp only [Go.wp_at_succ, Go.wp_at_zero]
          go_simp
          refine hK.out _ _ (HS.out _ K4.out) (fun hHeld => ?_)
          clear hK K
          try simp only [Act.put]
          refine wpAnyH_done (by kernel_rfl) ?_ _
          go_wp2
          go_meet
          case rel => exact ⟨_, au5, cu5, rfl, K1.out, K3.out, K4.out⟩
      · try simp only [Go.wp_at_succ, Go.wp_at_zero]
        go_simp
        refine hK.out _ _ (HS.out _ ?_) (fun hHeld => ?_)
        · exact Bu1.out.alloc Bu1.out.size _
        clear hK K
        try simp only [Act.put, List.setIfInBounds_toArray, List.set_cons_zero, List.set_cons_succ]
        obtain ⟨u2, hN⟩ : ∃ u, u = u1.alloc (.cells #[.int .i64 0, .slice none 0 0] 25) := ⟨_, rfl⟩
        rw [← hN] at hHeld ⊢
        have Bu2 : Hid (Below W.heap.size W u2) := by rw [hN]; exact Bu1.out.alloc Bu1.out.size _
        have Xu2 : Hid (u2.heap[W.heap.size]? = some (.cells #[.int .i64 x] 3 (0, 0))) := by rw [hN]; exact alloc_keep _ Xu1.out
        have Zu2 : Hid (u2.heap[u1.heap.size]? = some (.cells #[.int .i64 0, .slice none 0 0] 25 (0, 0))) := by rw [hN]; exact heap_alloc_new u1 _
        clear hN
        refine wpAnyH_ready (rs := [3]) (by kernel_rfl) (by simp) (AllReadyH.cons rfl (fun K hK => ?_) AllReadyH.nil)
        try simp only [Go.wp_at_succ, Go.wp_at_zero]
        go_simp
        refine hK.out _ _ (HS.out _ ?_) (fun hHeld => ?_)
        · exact Bu2.out.alloc Bu2.out.size _
        clear hK K
        try simp only [Act.put, List.setIfInBounds_toArray, List.set_cons_zero, List.set_cons_succ]
        obtain ⟨u3, hN⟩ : ∃ u, u = u2.alloc (.cells #[] 3) := ⟨_, rfl⟩
        rw [← hN] at hHeld ⊢
        have Bu3 : Hid (Below W.heap.size W u3) := by rw [hN]; exact Bu2.out.alloc Bu2.out.size _
        have Xu3 : Hid (u3.heap[W.heap.size]? = some (.cells #[.int .i64 x] 3 (0, 0))) := by rw [hN]; exact alloc_keep _ Xu2.out
        have Zu3 : Hid (u3.heap[u1.heap.size]? = some (.cells #[.int .i64 0, .slice none 0 0] 25 (0, 0))) := by rw [hN]; exact alloc_keep _ Zu2.out
        have Eu3 : Hid (u3.heap[u2.heap.size]? = some (.cells #[] 3 (0, 0))) := by rw [hN]; exact heap_alloc_new u2 _
        clear hN
        refine wpAnyH_ready (rs := [6]) (by kernel_rfl) (by simp) (AllReadyH.cons rfl (fun K hK => ?_) AllReadyH.nil)
        have HRu : Hid (u3.ownsRow W.heap.size 3 1 (.slice (some ⟨u2.heap.size, 0, none⟩) 0 0) 0 []) := row_empty Eu3.out (Bu2.out.size)
        refine stepApp rfl (.tmp 20) (.tmp 22) 22 22 rfl W.heap.size 3 i0 (.int .i64 0) 1 8 Try.underlying22 hi hz0 hz1 hz2 rfl (.slice (some ⟨u2.heap.size, 0, none⟩) 0 0) _ _ rfl HRu.out _ m (intCells A) rfl (HSA.out _ Bu3.out) ?c3 ?c4 ?c5 ?_
        case c3 => unfold maxLen; omega
        case c4 => omega
        case c5 => exact Bu3.out.size
        intro vu4 u4 O G
        have Bu4 : Hid (Below W.heap.size W u4) := Bu3.out.grown G Bu3.out.size (fun y hy => (HRu.out.lt y hy).1)
        rw [Nat.zero_add, List.nil_append] at O
        have Xu4 : Hid (u4.heap[W.heap.size]? = some (.cells #[.int .i64 x] 3 (0, 0))) := (G.block _ (Array.getElem?_eq_some_iff.1 Xu3.out).1 (fun e => by have h := Xu3.out.symm.trans (show u3.heap[W.heap.size]? = some (.cells #[] 3 (0, 0)) from by rw [show W.heap.size = u2.heap.size by simpa [Value.ownBlock] using e]; exact Eu3.out); simp at h)).trans Xu3.out
        have Zu4 : Hid (u4.heap[u1.heap.size]? = some (.cells #[.int .i64 0, .slice none 0 0] 25 (0, 0))) := (G.block _ (Array.getElem?_eq_some_iff.1 Zu3.out).1 (fun e => by have h := Zu3.out.symm.trans (show u3.heap[u1.heap.size]? = some (.cells #[] 3 (0, 0)) from by rw [show u1.heap.size = u2.heap.size by simpa [Value.ownBlock] using e]; exact Eu3.out); simp at h)).trans Zu3.out
        obtain ⟨au4, cu4, rfl⟩ := own_shape O
        have Ru4 := Lib.hid O
        clear O G
        refine hK.out _ _ (HS.out _ Bu4.out) (fun hHeld => ?_)
        clear hK K
        try simp only [Act.put]
        try simp only [List.setIfInBounds_toArray]
        refine wpAnyH_ready (rs := [9]) (by kernel_rfl) (by simp) (AllReadyH.cons rfl (fun K hK => ?_) AllReadyH.nil)
        refine stepApp rfl (.tmp 23) (.tmp 25) 22 22 rfl W.heap.size 3 i0 (.int .i64 0) 1 8 Try.underlying22 hi hz0 hz1 hz2 rfl (.slice au4 m cu4) _ _ rfl Ru4.out _ 1 (intCells [x]) rfl (srcOneX (cell_of_one Xu4.out)) ?c3 ?c4 ?c5 ?_
        case c3 => unfold maxLen; omega
        case c4 => omega
        case c5 => exact Bu4.out.size
        intro vu5 u5 O G
        have Bu5 : Hid (Below W.heap.size W u5) := Bu4.out.grown G Bu4.out.size (fun y hy => (Ru4.out.lt y hy).1)
        have Zu5 : Hid (u5.heap[u1.heap.size]? = some (.cells #[.int .i64 0, .slice none 0 0] 25 (0, 0))) := (G.block _ (Array.getElem?_eq_some_iff.1 Zu4.out).1 ((show ChT u4 u1.heap.size 0 (.slice none 0 0) from Zu4.out).not_row Ru4.out)).trans Zu4.out
        obtain ⟨au5, cu5, rfl⟩ := own_shape O
        have Ru5 := Lib.hid O
        clear O G
        refine hK.out _ _ (HS.out _ Bu5.out) (fun hHeld => ?_)
        clear hK K
        try simp only [Act.put]
        try simp only [List.setIfInBounds_toArray]
        first
          | (refine held_take 10 27 (v := ?_) rfl rfl (by kernel_rfl) (by kernel_rfl) (by kernel_rfl) (fun _ _ _ h => h) (by assumption) (by rfl) ?_ ?_; rotate_left; (focus (intro w hSw; obtain ⟨hS0, hS1⟩ := hSw; go_simp <;> with_reducible rfl)))
          | refine held_pass 10 27 rfl rfl (by kernel_rfl) (by kernel_rfl) (by kernel_rfl) (fun _ _ _ h => h) (by assumption) (by rfl) ?_
        simp only [Act.put]
        obtain ⟨y0, y1, z0, z1⟩ := (show ChT u5 u1.heap.size 0 (.slice none 0 0) from Zu5.out).cells
        obtain ⟨k1, k2⟩ := (show ChT u5 u1.heap.size 0 (.slice none 0 0) from Zu5.out).stored (ep' := ep + 1) (v' := .slice au5 (m + 1) cu5)
        have K1 := Lib.hid k1
        have K3 := Lib.hid (rowOnlyZ Ru5.out (show ChT u5 u1.heap.size 0 (.slice none 0 0) from Zu5.out) k2)
        have K4 := Lib.hid (k2.below Bu5.out (fun y hy => by subst hy; exact Bu1.out.size) Bu5.out.size)
        clear k1 k2
        refine wpAnyH_ready (rs := [12]) (by kernel_rfl) (by simp) (AllReadyH.cons rfl (fun K hK => ?_) AllReadyH.nil)
        try simp only [Go.wp_at_succ, Go.wp_at_zero]
        go_simp
        refine hK.out _ _ (HS.out _ K4.out) (fun hHeld => ?_)
        clear hK K
        try simp only [Act.put]
        refine wpAnyH_done (by kernel_rfl) ?_ _
        go_wp2
        go_meet
        case rel => exact ⟨_, au5, cu5, rfl, K1.out, K3.out, K4.out⟩
    · try simp only [Go.wp_at_succ, Go.wp_at_zero]
      go_simp
      refine hK.out _ _ (HS.out _ ?_) (fun hHeld => ?_)
      · show Below W.heap.size W _; go_grown
      clear hK K
      try simp only [Act.put, List.setIfInBounds_toArray, List.set_cons_zero, List.set_cons_succ]
      obtain ⟨u1, hN⟩ : ∃ u, u = (W.alloc (.cells #[.int .i64 0, .slice none 0 0] 25)).drew := ⟨_, rfl⟩
      rw [← hN] at hHeld ⊢
      have Bu1 : Hid (Below W.heap.size W u1) := by rw [hN]; exact ((Below.refl _ W).alloc (Nat.le_refl _) _).drew
      have Zu1 : Hid (u1.heap[W.heap.size]? = some (.cells #[.int .i64 0, .slice none 0 0] 25 (0, 0))) := by rw [hN]; exact heap_alloc_new W _
      clear hN
      refine wpAnyH_ready (rs := [3, 8]) (by kernel_rfl) (by simp) (AllReadyH.cons rfl (fun K hK => ?_) (AllReadyH.cons rfl (fun K hK => ?_) AllReadyH.nil))
      · try simp only [Go.wp_at_succ, Go.wp_at_zero]
        go_simp
        refine hK.out _ _ (HS.out _ ?_) (fun hHeld => ?_)
        · exact Bu1.out.alloc Bu1.out.size _
        clear hK K
        try simp only [Act.put, List.setIfInBounds_toArray, List.set_cons_zero, List.set_cons_succ]
        obtain ⟨u2, hN⟩ : ∃ u, u = u1.alloc (.cells #[] 3) := ⟨_, rfl⟩
        rw [← hN] at hHeld ⊢
        have Bu2 : Hid (Below W.heap.size W u2) := by rw [hN]; exact Bu1.out.alloc Bu1.out.size _
        have Zu2 : Hid (u2.heap[W.heap.size]? = some (.cells #[.int .i64 0, .slice none 0 0] 25 (0, 0))) := by rw [hN]; exact alloc_keep _ Zu1.out
        have Eu2 : Hid (u2.heap[u1.heap.size]? = some (.cells #[] 3 (0, 0))) := by rw [hN]; exact heap_alloc_new u1 _
        clear hN
        refine wpAnyH_ready (rs := [6, 8]) (by kernel_rfl) (by simp) (AllReadyH.cons rfl (fun K hK => ?_) (AllReadyH.cons rfl (fun K hK => ?_) AllReadyH.nil))
        · have HRu : Hid (u2.ownsRow W.heap.size 3 1 (.slice (some ⟨u1.heap.size, 0, none⟩) 0 0) 0 []) := row_empty Eu2.out (Bu1.out.size)
          refine stepApp rfl (.tmp 20) (.tmp 22) 22 22 rfl W.heap.size 3 i0 (.int .i64 0) 1 8 Try.underlying22 hi hz0 hz1 hz2 rfl (.slice (some ⟨u1.heap.size, 0, none⟩) 0 0) _ _ rfl HRu.out _ m (intCells A) rfl (HSA.out _ Bu2.out) ?c3 ?c4 ?c5 ?_
          case c3 => unfold maxLen; omega
          case c4 => omega
          case c5 => exact Bu2.out.size
          intro vu3 u3 O G
          have Bu3 : Hid (Below W.heap.size W u3) := Bu2.out.grown G Bu2.out.size (fun y hy => (HRu.out.lt y hy).1)
          rw [Nat.zero_add, List.nil_append] at O
          have Zu3 : Hid (u3.heap[W.heap.size]? = some (.cells #[.int .i64 0, .slice none 0 0] 25 (0, 0))) := (G.block _ (Array.getElem?_eq_some_iff.1 Zu2.out).1 (fun e => by have h := Zu2.out.symm.trans (show u2.heap[W.heap.size]? = some (.cells #[] 3 (0, 0)) from by rw [show W.heap.size = u1.heap.size by simpa [Value.ownBlock] using e]; exact Eu2.out); simp at h)).trans Zu2.out
          obtain ⟨au3, cu3, rfl⟩ := own_shape O
          have Ru3 := Lib.hid O
          clear O G
          refine hK.out _ _ (HS.out _ Bu3.out) (fun hHeld => ?_)
          clear hK K
          try simp only [Act.put]
          try simp only [List.setIfInBounds_toArray]
          refine wpAnyH_ready (rs := [8]) (by kernel_rfl) (by simp) (AllReadyH.cons rfl (fun K hK => ?_) AllReadyH.nil)
          try simp only [Go.wp_at_succ, Go.wp_at_zero]
          go_simp
          refine hK.out _ _ (HS.out _ ?_) (fun hHeld => ?_)
          · exact Bu3.out.alloc Bu3.out.size _
          clear hK K
          try simp only [Act.put, List.setIfInBounds_toArray, List.set_cons_zero, List.set_cons_succ]
          obtain ⟨u4, hN⟩ : ∃ u, u = u3.alloc (.cells #[.int .i64 x] 3) := ⟨_, rfl⟩
          rw [← hN] at hHeld ⊢
          have Bu4 : Hid (Below W.heap.size W u4) := by rw [hN]; exact Bu3.out.alloc Bu3.out.size _
          have Zu4 : Hid (u4.heap[W.heap.size]? = some (.cells #[.int .i64 0, .slice none 0 0] 25 (0, 0))) := by rw [hN]; exact alloc_keep _ Zu3.out
          have Xu4 : Hid (u4.heap[u3.heap.size]? = some (.cells #[.int .i64 x] 3 (0, 0))) := by rw [hN]; exact heap_alloc_new u3 _
          have Ru4 := Lib.hid (Ru3.out.alloc (.cells #[.int .i64 x] 3))
          rw [← hN] at Ru4
          clear hN
          refine wpAnyH_ready (rs := [9]) (by kernel_rfl) (by simp) (AllReadyH.cons rfl (fun K hK => ?_) AllReadyH.nil)
          refine stepApp rfl (.tmp 23) (.tmp 25) 22 22 rfl W.heap.size 3 i0 (.int .i64 0) 1 8 Try.underlying22 hi hz0 hz1 hz2 rfl (.slice au3 m cu3) _ _ rfl Ru4.out _ 1 (intCells [x]) rfl (srcOneX (cell_of_one Xu4.out)) ?c3 ?c4 ?c5 ?_
          case c3 => unfold maxLen; omega
          case c4 => omega
          case c5 => exact Bu4.out.size
          intro vu5 u5 O G
          have Bu5 : Hid (Below W.heap.size W u5) := Bu4.out.grown G Bu4.out.size (fun y hy => (Ru4.out.lt y hy).1)
          have Zu5 : Hid (u5.heap[W.heap.size]? = some (.cells #[.int .i64 0, .slice none 0 0] 25 (0, 0))) := (G.block _ (Array.getElem?_eq_some_iff.1 Zu4.out).1 ((show ChT u4 W.heap.size 0 (.slice none 0 0) from Zu4.out).not_row Ru4.out)).trans Zu4.out
          obtain ⟨au5, cu5, rfl⟩ := own_shape O
          have Ru5 := Lib.hid O
          clear O G
          refine hK.out _ _ (HS.out _ Bu5.out) (fun hHeld => ?_)
          clear hK K
          try simp only [Act.put]
          try simp only [List.setIfInBounds_toArray]
          first
            | (refine held_take 10 27 (v := ?_) rfl rfl (by kernel_rfl) (by kernel_rfl) (by kernel_rfl) (fun _ _ _ h => h) (by assumption) (by rfl) ?_ ?_; rotate_left; (focus (intro w hSw; obtain ⟨hS0, hS1⟩ := hSw; go_simp <;> with_reducible rfl)))
            | refine held_pass 10 27 rfl rfl (by kernel_rfl) (by kernel_rfl) (by kernel_rfl) (fun _ _ _ h => h) (by assumption) (by rfl) ?_
          simp only [Act.put]
          obtain ⟨y0, y1, z0, z1⟩ := (show ChT u5 W.heap.size 0 (.slice none 0 0) from Zu5.out).cells
          obtain ⟨k1, k2⟩ := (show ChT u5 W.heap.size 0 (.slice none 0 0) from Zu5.out).stored (ep' := ep + 1) (v' := .slice au5 (m + 1) cu5)
          have K1 := Lib.hid k1
          have K3 := Lib.hid (rowOnlyZ Ru5.out (show ChT u5 W.heap.size 0 (.slice none 0 0) from Zu5.out) k2)
          have K4 := Lib.hid (k2.below Bu5.out (fun y hy => by subst hy; exact Nat.le_refl _) Bu5.out.size)
          clear k1 k2
          refine wpAnyH_ready (rs := [12]) (by kernel_rfl) (by simp) (AllReadyH.cons rfl (fun K hK => ?_) AllReadyH.nil)
          try simp only [Go.wp_at_succ, Go.wp_at_zero]
          go_simp
          refine hK.out _ _ (HS.out _ K4.out) (fun hHeld => ?_)
          clear hK K
          try simp only [Act.put]
          refine wpAnyH_done (by kernel_rfl) ?_ _
          go_wp2
          go_meet
          case rel => exact ⟨_, au5, cu5, rfl, K1.out, K3.out, K4.out⟩
        · try simp only [Go.wp_at_succ, Go.wp_at_zero]
          go_simp
          refine hK.out _ _ (HS.out _ ?_) (fun hHeld => ?_)
          · exact Bu2.out.alloc Bu2.out.size _
          clear hK K
          try simp only [Act.put, List.setIfInBounds_toArray, List.set_cons_zero, List.set_cons_succ]
          obtain ⟨u3, hN⟩ : ∃ u, u = u2.alloc (.cells #[.int .i64 x] 3) := ⟨_, rfl⟩
          rw [← hN] at hHeld ⊢
          have Bu3 : Hid (Below W.heap.size W u3) := by rw [hN]; exact Bu2.out.alloc Bu2.out.size _
          have Zu3 : Hid (u3.heap[W.heap.size]? = some (.cells #[.int .i64 0, .slice none 0 0] 25 (0, 0))) := by rw [hN]; exact alloc_keep _ Zu2.out
          have Eu3 : Hid (u3.heap[u1.heap.size]? = some (.cells #[] 3 (0, 0))) := by rw [hN]; exact alloc_keep _ Eu2.out
          have Xu3 : Hid (u3.heap[u2.heap.size]? = some (.cells #[.int .i64 x] 3 (0, 0))) := by rw [hN]; exact heap_alloc_new u2 _
          clear hN
          refine wpAnyH_ready (rs := [6]) (by kernel_rfl) (by simp) (AllReadyH.cons rfl (fun K hK => ?_) AllReadyH.nil)
          have HRu : Hid (u3.ownsRow W.heap.size 3 1 (.slice (some ⟨u1.heap.size, 0, none⟩) 0 0) 0 []) := row_empty Eu3.out (Bu1.out.size)
          refine stepApp rfl (.tmp 20) (.tmp 22) 22 22 rfl W.heap.size 3 i0 (.int .i64 0) 1 8 Try.underlying22 hi hz0 hz1 hz2 rfl (.slice (some ⟨u1.heap.size, 0, none⟩) 0 0) _ _ rfl HRu.out _ m (intCells A) rfl (HSA.out _ Bu3.out) ?c3 ?c4 ?c5 ?_
          case c3 => unfold maxLen; omega
          case c4 => omega
          case c5 => exact Bu3.out.size
          intro vu4 u4 O G
          have Bu4 : Hid (Below W.heap.size W u4) := Bu3.out.grown G Bu3.out.size (fun y hy => (HRu.out.lt y hy).1)
          rw [Nat.zero_add, List.nil_append] at O
          have Zu4 : Hid (u4.heap[W.heap.size]? = some (.cells #[.int .i64 0, .slice none 0 0] 25 (0, 0))) := (G.block _ (Array.getElem?_eq_some_iff.1 Zu3.out).1 (fun e => by have h := Zu3.out.symm.trans (show u3.heap[W.heap.size]? = some (.cells #[] 3 (0, 0)) from by rw [show W.heap.size = u1.heap.size by simpa [Value.ownBlock] using e]; exact Eu3.out); simp at h)).trans Zu3.out
          have Xu4 : Hid (u4.heap[u2.heap.size]? = some (.cells #[.int .i64 x] 3 (0, 0))) := (G.block _ (Array.getElem?_eq_some_iff.1 Xu3.out).1 (fun e => by have h := Xu3.out.symm.trans (show u3.heap[u2.heap.size]? = some (.cells #[] 3 (0, 0)) from by rw [show u2.heap.size = u1.heap.size by simpa [Value.ownBlock] using e]; exact Eu3.out); simp at h)).trans Xu3.out
          obtain ⟨au4, cu4, rfl⟩ := own_shape O
          have Ru4 := Lib.hid O
          clear O G
          refine hK.out _ _ (HS.out _ Bu4.out) (fun hHeld => ?_)
          clear hK K
          try simp only [Act.put]
          try simp only [List.setIfInBounds_toArray]
          refine wpAnyH_ready (rs := [9]) (by kernel_rfl) (by simp) (AllReadyH.cons rfl (fun K hK => ?_) AllReadyH.nil)
          refine stepApp rfl (.tmp 23) (.tmp 25) 22 22 rfl W.heap.size 3 i0 (.int .i64 0) 1 8 Try.underlying22 hi hz0 hz1 hz2 rfl (.slice au4 m cu4) _ _ rfl Ru4.out _ 1 (intCells [x]) rfl (srcOneX (cell_of_one Xu4.out)) ?c3 ?c4 ?c5 ?_
          case c3 => unfold maxLen; omega
          case c4 => omega
          case c5 => exact Bu4.out.size
          intro vu5 u5 O G
          have Bu5 : Hid (Below W.heap.size W u5) := Bu4.out.grown G Bu4.out.size (fun y hy => (Ru4.out.lt y hy).1)
          have Zu5 : Hid (u5.heap[W.heap.size]? = some (.cells #[.int .i64 0, .slice none 0 0] 25 (0, 0))) := (G.block _ (Array.getElem?_eq_some_iff.1 Zu4.out).1 ((show ChT u4 W.heap.size 0 (.slice none 0 0) from Zu4.out).not_row Ru4.out)).trans Zu4.out
          obtain ⟨au5, cu5, rfl⟩ := own_shape O
          have Ru5 := Lib.hid O
          clear O G
          refine hK.out _ _ (HS.out _ Bu5.out) (fun hHeld => ?_)
          clear hK K
          try simp only [Act.put]
          try simp only [List.setIfInBounds_toArray]
          first
            | (refine held_take 10 27 (v := ?_) rfl rfl (by kernel_rfl) (by kernel_rfl) (by kernel_rfl) (fun _ _ _ h => h) (by assumption) (by rfl) ?_ ?_; rotate_left; (focus (intro w hSw; obtain ⟨hS0, hS1⟩ := hSw; go_simp <;> with_reducible rfl)))
            | refine held_pass 10 27 rfl rfl (by kernel_rfl) (by kernel_rfl) (by kernel_rfl) (fun _ _ _ h => h) (by assumption) (by rfl) ?_
          simp only [Act.put]
          obtain ⟨y0, y1, z0, z1⟩ := (show ChT u5 W.heap.size 0 (.slice none 0 0) from Zu5.out).cells
          obtain ⟨k1, k2⟩ := (show ChT u5 W.heap.size 0 (.slice none 0 0) from Zu5.out).stored (ep' := ep + 1) (v' := .slice au5 (m + 1) cu5)
          have K1 := Lib.hid k1
          have K3 := Lib.hid (rowOnlyZ Ru5.out (show ChT u5 W.heap.size 0 (.slice none 0 0) from Zu5.out) k2)
          have K4 := Lib.hid (k2.below Bu5.out (fun y hy => by subst hy; exact Nat.le_refl _) Bu5.out.size)
          clear k1 k2
          refine wpAnyH_ready (rs := [12]) (by kernel_rfl) (by simp) (AllReadyH.cons rfl (fun K hK => ?_) AllReadyH.nil)
          try simp only [Go.wp_at_succ, Go.wp_at_zero]
          go_simp
          refine hK.out _ _ (HS.out _ K4.out) (fun hHeld => ?_)
          clear hK K
          try simp only [Act.put]
          refine wpAnyH_done (by kernel_rfl) ?_ _
          go_wp2
          go_meet
          case rel => exact ⟨_, au5, cu5, rfl, K1.out, K3.out, K4.out⟩
      · try simp only [Go.wp_at_succ, Go.wp_at_zero]
        go_simp
        refine hK.out _ _ (HS.out _ ?_) (fun hHeld => ?_)
        · exact Bu1.out.alloc Bu1.out.size _
        clear hK K
        try simp only [Act.put, List.setIfInBounds_toArray, List.set_cons_zero, List.set_cons_succ]
        obtain ⟨u2, hN⟩ : ∃ u, u = u1.alloc (.cells #[.int .i64 x] 3) := ⟨_, rfl⟩
        rw [← hN] at hHeld ⊢
        have Bu2 : Hid (Below W.heap.size W u2) := by rw [hN]; exact Bu1.out.alloc Bu1.out.size _
        have Zu2 : Hid (u2.heap[W.heap.size]? = some (.cells #[.int .i64 0, .slice none 0 0] 25 (0, 0))) := by rw [hN]; exact alloc_keep _ Zu1.out
        have Xu2 : Hid (u2.heap[u1.heap.size]? = some (.cells #[.int .i64 x] 3 (0, 0))) := by rw [hN]; exact heap_alloc_new u1 _
        clear hN
        refine wpAnyH_ready (rs := [3]) (by kernel_rfl) (by simp) (AllReadyH.cons rfl (fun K hK => ?_) AllReadyH.nil)
        try simp only [Go.wp_at_succ, Go.wp_at_zero]
        go_simp
        refine hK.out _ _ (HS.out _ ?_) (fun hHeld => ?_)
        · exact Bu2.out.alloc Bu2.out.size _
        clear hK K
        try simp only [Act.put, List.setIfInBounds_toArray, List.set_cons_zero, List.set_cons_succ]
        obtain ⟨u3, hN⟩ : ∃ u, u = u2.alloc (.cells #[] 3) := ⟨_, rfl⟩
        rw [← hN] at hHeld ⊢
        have Bu3 : Hid (Below W.heap.size W u3) := by rw [hN]; exact Bu2.out.alloc Bu2.out.size _
        have Zu3 : Hid (u3.heap[W.heap.size]? = some (.cells #[.int .i64 0, .slice none 0 0] 25 (0, 0))) := by rw [hN]; exact alloc_keep _ Zu2.out
        have Xu3 : Hid (u3.heap[u1.heap.size]? = some (.cells #[.int .i64 x] 3 (0, 0))) := by rw [hN]; exact alloc_keep _ Xu2.out
        have Eu3 : Hid (u3.heap[u2.heap.size]? = some (.cells #[] 3 (0, 0))) := by rw [hN]; exact heap_alloc_new u2 _
        clear hN
        refine wpAnyH_ready (rs := [6]) (by kernel_rfl) (by simp) (AllReadyH.cons rfl (fun K hK => ?_) AllReadyH.nil)
        have HRu : Hid (u3.ownsRow W.heap.size 3 1 (.slice (some ⟨u2.heap.size, 0, none⟩) 0 0) 0 []) := row_empty Eu3.out (Bu2.out.size)
        refine stepApp rfl (.tmp 20) (.tmp 22) 22 22 rfl W.heap.size 3 i0 (.int .i64 0) 1 8 Try.underlying22 hi hz0 hz1 hz2 rfl (.slice (some ⟨u2.heap.size, 0, none⟩) 0 0) _ _ rfl HRu.out _ m (intCells A) rfl (HSA.out _ Bu3.out) ?c3 ?c4 ?c5 ?_
        case c3 => unfold maxLen; omega
        case c4 => omega
        case c5 => exact Bu3.out.size
        intro vu4 u4 O G
        have Bu4 : Hid (Below W.heap.size W u4) := Bu3.out.grown G Bu3.out.size (fun y hy => (HRu.out.lt y hy).1)
        rw [Nat.zero_add, List.nil_append] at O
        have Zu4 : Hid (u4.heap[W.heap.size]? = some (.cells #[.int .i64 0, .slice none 0 0] 25 (0, 0))) := (G.block _ (Array.getElem?_eq_some_iff.1 Zu3.out).1 (fun e => by have h := Zu3.out.symm.trans (show u3.heap[W.heap.size]? = some (.cells #[] 3 (0, 0)) from by rw [show W.heap.size = u2.heap.size by simpa [Value.ownBlock] using e]; exact Eu3.out); simp at h)).trans Zu3.out
        have Xu4 : Hid (u4.heap[u1.heap.size]? = some (.cells #[.int .i64 x] 3 (0, 0))) := (G.block _ (Array.getElem?_eq_some_iff.1 Xu3.out).1 (fun e => by have h := Xu3.out.symm.trans (show u3.heap[u1.heap.size]? = some (.cells #[] 3 (0, 0)) from by rw [show u1.heap.size = u2.heap.size by simpa [Value.ownBlock] using e]; exact Eu3.out); simp at h)).trans Xu3.out
        obtain ⟨au4, cu4, rfl⟩ := own_shape O
        have Ru4 := Lib.hid O
        clear O G
        refine hK.out _ _ (HS.out _ Bu4.out) (fun hHeld => ?_)
        clear hK K
        try simp only [Act.put]
        try simp only [List.setIfInBounds_toArray]
        refine wpAnyH_ready (rs := [9]) (by kernel_rfl) (by simp) (AllReadyH.cons rfl (fun K hK => ?_) AllReadyH.nil)
        refine stepApp rfl (.tmp 23) (.tmp 25) 22 22 rfl W.heap.size 3 i0 (.int .i64 0) 1 8 Try.underlying22 hi hz0 hz1 hz2 rfl (.slice au4 m cu4) _ _ rfl Ru4.out _ 1 (intCells [x]) rfl (srcOneX (cell_of_one Xu4.out)) ?c3 ?c4 ?c5 ?_
        case c3 => unfold maxLen; omega
        case c4 => omega
        case c5 => exact Bu4.out.size
        intro vu5 u5 O G
        have Bu5 : Hid (Below W.heap.size W u5) := Bu4.out.grown G Bu4.out.size (fun y hy => (Ru4.out.lt y hy).1)
        have Zu5 : Hid (u5.heap[W.heap.size]? = some (.cells #[.int .i64 0, .slice none 0 0] 25 (0, 0))) := (G.block _ (Array.getElem?_eq_some_iff.1 Zu4.out).1 ((show ChT u4 W.heap.size 0 (.slice none 0 0) from Zu4.out).not_row Ru4.out)).trans Zu4.out
        obtain ⟨au5, cu5, rfl⟩ := own_shape O
        have Ru5 := Lib.hid O
        clear O G
        refine hK.out _ _ (HS.out _ Bu5.out) (fun hHeld => ?_)
        clear hK K
        try simp only [Act.put]
        try simp only [List.setIfInBounds_toArray]
        first
          | (refine held_take 10 27 (v := ?_) rfl rfl (by kernel_rfl) (by kernel_rfl) (by kernel_rfl) (fun _ _ _ h => h) (by assumption) (by rfl) ?_ ?_; rotate_left; (focus (intro w hSw; obtain ⟨hS0, hS1⟩ := hSw; go_simp <;> with_reducible rfl)))
          | refine held_pass 10 27 rfl rfl (by kernel_rfl) (by kernel_rfl) (by kernel_rfl) (fun _ _ _ h => h) (by assumption) (by rfl) ?_
        simp only [Act.put]
        obtain ⟨y0, y1, z0, z1⟩ := (show ChT u5 W.heap.size 0 (.slice none 0 0) from Zu5.out).cells
        obtain ⟨k1, k2⟩ := (show ChT u5 W.heap.size 0 (.slice none 0 0) from Zu5.out).stored (ep' := ep + 1) (v' := .slice au5 (m + 1) cu5)
        have K1 := Lib.hid k1
        have K3 := Lib.hid (rowOnlyZ Ru5.out (show ChT u5 W.heap.size 0 (.slice none 0 0) from Zu5.out) k2)
        have K4 := Lib.hid (k2.below Bu5.out (fun y hy => by subst hy; exact Nat.le_refl _) Bu5.out.size)
        clear k1 k2
        refine wpAnyH_ready (rs := [12]) (by kernel_rfl) (by simp) (AllReadyH.cons rfl (fun K hK => ?_) AllReadyH.nil)
        try simp only [Go.wp_at_succ, Go.wp_at_zero]
        go_simp
        refine hK.out _ _ (HS.out _ K4.out) (fun hHeld => ?_)
        clear hK K
        try simp only [Act.put]
        refine wpAnyH_done (by kernel_rfl) ?_ _
        go_wp2
        go_meet
        case rel => exact ⟨_, au5, cu5, rfl, K1.out, K3.out, K4.out⟩
  case rest =>
    obtain ⟨D, a3, c3, rfl, HD⟩ := hcut
    obtain ⟨d0, d1, _, _⟩ := HD.out.1.cells
    have HMC : Hid (∀ R, Hid (R = decide (ChainV.may ⟨ep + 1, A ++ [x]⟩)) → Calls Try.prog 15 #[.agg #[.int .i64 (ep + 1), .slice a3 (m + 1) c3]] wc fun e w' => e = .returned (.bool R) ∧ Below wc.heap.size wc w') := fun R hR => refmaychain_r (ep + 1) _ (A ++ [x]) _ _ (ints_own (L := A ++ [x]) (by rw [← cells_app]; exact HD.out.2.1) (Nat.le_refl _)) (Nat.le_refl _) R hR
    have RC := Lib.hid (R1.out.keep HD.out.2.2 R1.out.lt)
    have hsc := HD.out.2.2.size
    rcases HE.out with ⟨hmay, rfl, rfl⟩ | ⟨hmay, rfl, rfl⟩
    · have HMR := Lib.hid (HMC.out true (decide_eq_true hmay).symm)
      clear HMC hmay
      go_wp2_with fail
      refine HMR.out.mono ?_
      rintro e w1 ⟨rfl, B1⟩
      have hs1 := B1.size
      have D1 := Lib.hid (HD.out.1.keep B1 HD.out.1.lt)
      have RW1 := Lib.hid (RC.out.keep B1 RC.out.lt)
      have ROW1 := Lib.hid (rowOn HD.out.2.1 B1)
      have BW1 := Lib.hid ((C1.out.trans (HD.out.2.2.mono C1.out.size)).trans (B1.mono (by omega)))
      clear B1 d0 d1
      obtain ⟨y0, y1, z0, z1⟩ := RW1.out.cells
      obtain ⟨d0, d1, _, _⟩ := D1.out.cells
      go_wp2
      obtain ⟨k1, k2⟩ := RW1.out.stored (ep' := ep + 1) (v' := .slice a3 (m + 1) c3)
      have hbw := k2.below BW1.out (fun x hx => by omega) BW1.out.size
      obtain ⟨e0, e1, _, _⟩ := k1.cells
      have hrow := own_only ROW1.out k2 (by omega)
      unfold chW at e0 e1
      refine bodyPost_ret (v := .tuple #[.agg #[.int .i64 (ep + 1), .slice a3 (m + 1) c3], .int .i64 0]) (by simp [results, Try.results26, go_sem, e0, e1]) rfl ⟨a3, _, c3, rfl, ints_own (L := A ++ [x]) (by rw [← cells_app]; exact hrow) (Nat.le_refl _), hbw⟩
    · have HMR := Lib.hid (HMC.out false (decide_eq_false hmay).symm)
      clear HMC hmay
      go_wp2_with fail
      refine HMR.out.mono ?_
      rintro e w1 ⟨rfl, B1⟩
      have hs1 := B1.size
      have D1 := Lib.hid (HD.out.1.keep B1 HD.out.1.lt)
      have RW1 := Lib.hid (RC.out.keep B1 RC.out.lt)
      have ROW1 := Lib.hid (rowOn HD.out.2.1 B1)
      have BW1 := Lib.hid ((C1.out.trans (HD.out.2.2.mono C1.out.size)).trans (B1.mono (by omega)))
      clear B1 d0 d1
      obtain ⟨y0, y1, z0, z1⟩ := RW1.out.cells
      obtain ⟨d0, d1, _, _⟩ := D1.out.cells
      go_wp2
      obtain ⟨k1, k2⟩ := RW1.out.stored (ep' := 0) (v' := .slice none 0 0)
      have hbw := k2.below BW1.out (fun x hx => by omega) BW1.out.size
      obtain ⟨e0, e1, _, _⟩ := k1.cells
      have hrow := own_only ROW1.out k2 (by omega)
      unfold chW at e0 e1
      refine bodyPost_ret (v := .tuple #[.agg #[.int .i64 0, .slice none 0 0], .int .i64 1]) (by simp [results, Try.results26, go_sem, e0, e1]) rfl ⟨none, 0, 0, rfl, ⟨rfl, rfl, rfl⟩, hbw⟩
end Go.Proofs.Ytnliadnpoledmaa
