/-
  THE PROGRAM's With, Same, First. Of chains of at most a hundred nodes.
-/
import Derived.Test.YtnliadnpoledmaaChainE
namespace Go.Proofs.Ytnliadnpoledmaa
open Go.RowKit

theorem rowOn {w w' : World} {base : Nat} {e : TypeId} {size : Nat} {v : Value} {n : Nat} {xs : List Value} (h : w.ownsRow base e size v n xs) (hb : Below w.heap.size w w') : w'.ownsRow base e size v n xs :=
  h.kept (row := none) ⟨hb.os, hb.tape, hb.output, hb.size, fun k hk _ => hb.block k hk⟩ (by cases hv : v.ownBlock with | none => exact .inl rfl | some g => exact .inr (by simp))
theorem own_only {w w' : World} {base b : Nat} {e : TypeId} {size : Nat} {v : Value} {n : Nat} {xs : List Value} (h : w.ownsRow base e size v n xs) (ho : Only (· = b) w w') (hb : b < base) : w'.ownsRow base e size v n xs := by
  refine ⟨h.1, ?_⟩
  rcases h.2 with h0 | ⟨g, cap, cur, rfl, hg, hh, hr⟩
  · exact .inl h0
  · exact .inr ⟨g, cap, cur, rfl, hg, (ho.block g (lt_of_block hh) (fun e => by omega)).trans hh, hr⟩
/-- A chain's box stands. -/
def BoxC (b : Nat) (ep : Int) (v : Value) (u : World) : Prop := u.cell? ⟨b, 0, none⟩ = some (.int .i64 ep) ∧ u.cell? ⟨b, 1, none⟩ = some v
theorem BoxC.on {b : Nat} {ep : Int} {v : Value} {u u' : World} (h : BoxC b ep v u) (hb : Below u.heap.size u u') (hl : b < u.heap.size) : BoxC b ep v u' := ⟨(hb.cell hl).trans h.1, (hb.cell hl).trans h.2⟩

set_option maxRecDepth 100000 in
set_option maxHeartbeats 4000000 in
theorem chwith_in (ep : Int) (v : Value) (L : List Int) (x : Int) (B : Nat) (w : World) (hI : Ints w B v L) (hB : B ≤ w.heap.size) (hl : L.length ≤ 100) (he : wrap64 (ep + 1) = ep + 1) {ep' : Int} {er : Int}
    (hE : (ChainV.may ⟨ep + 1, L ++ [x]⟩ ∧ ep' = ep + 1 ∧ er = 0) ∨ (¬ ChainV.may ⟨ep + 1, L ++ [x]⟩ ∧ ep' = 0 ∧ er = 1)) :
    Calls Try.prog 11 #[.agg #[.int .i64 ep, v], .int .i64 x] w fun e w' => ∃ a n c, e = .returned (.tuple #[.agg #[.int .i64 ep', .slice a n c], .int .i64 er]) ∧ (er = 0 → n = L.length + 1 ∧ w'.ownsRow w.heap.size 3 1 (.slice a n c) (L.length + 1) (intCells (L ++ [x]))) ∧ (er = 1 → a = none ∧ n = 0 ∧ c = 0) ∧ Below w.heap.size w w' := by
  obtain ⟨a0, c0, rfl⟩ : ∃ a c, v = .slice a L.length c := by obtain ⟨a, c, h, _⟩ := hI; exact ⟨a, c, h⟩
  obtain ⟨m, hm⟩ : ∃ m, m = L.length := ⟨_, rfl⟩
  obtain ⟨W, hW⟩ : ∃ W, W = (w.alloc (.cells #[.int .i64 ep, .slice a0 L.length c0] 25)).alloc (.cells #[.int .i64 0, .slice none 0 0] 25) := ⟨_, rfl⟩
  have hbW : Below w.heap.size w W := by rw [hW]; exact ((Below.refl _ w).alloc (Nat.le_refl _) _).alloc (by simp) _
  have hsW : W.heap.size = w.heap.size + 2 := by rw [hW]; simp
  have cW : ChT W w.heap.size ep (.slice a0 L.length c0) := by rw [hW]; exact (ChT.fresh w _ _).keep ((Below.refl _ _).alloc (Nat.le_refl _) _) (by simp)
  have rW : ChT W (w.heap.size + 1) 0 (.slice none 0 0) := by
    rw [hW]
    have := ChT.fresh (w.alloc (.cells #[.int .i64 ep, .slice a0 L.length c0] 25)) 0 (.slice none 0 0)
    rwa [World.size_alloc] at this
  have bC : BoxC w.heap.size ep (.slice a0 L.length c0) W.drew := ⟨cW.cells.1, cW.cells.2.1⟩
  have HS : Hid (∀ u, Below W.heap.size W u → BoxC w.heap.size ep (.slice a0 L.length c0) u) := fun u hu => ⟨(cW.keep hu cW.lt).cells.1, (cW.keep hu cW.lt).cells.2.1⟩
  have HC : Hid (∀ u ss, Below W.heap.size W u → u.heap[ss]? = some (.cells #[.slice a0 L.length c0, .slice (some ⟨W.heap.size, 0, none⟩) 1 1] 22 (0, 0)) → u.cell? ⟨W.heap.size, 0, none⟩ = some (.int .i64 x) → W.heap.size < u.heap.size →
      Calls Try.prog 30 #[.slice (some ⟨ss, 0, none⟩) 2 2] u fun e w' => ∃ a c, e = .returned (.slice a (m + 1) c) ∧ Hid (w'.ownsRow u.heap.size 3 1 (.slice a (m + 1) c) (m + 1) (intCells (L ++ [x])) ∧ Below u.heap.size u w' ∧ Below W.heap.size W w')) := fun u ss hu hs hx hlt =>
    (slconcat_two ss B (.slice a0 L.length c0) L (.slice (some ⟨W.heap.size, 0, none⟩) 1 1) x u hs (hI.keep ((hbW.trans (hu.mono (by omega))).mono hB)) (by have := hu.size; omega)
      ⟨_, _, rfl, Nat.le_refl _, by decide, fun e => (by cases e), fun _ => ⟨_, _, rfl, hlt, fun j hj => by
        obtain rfl : j = 0 := by simpa using hj
        simpa using hx⟩⟩ hl).mono fun e w' ⟨v', h1, h2, h3⟩ => by
      obtain ⟨a, c, rfl⟩ := own_shape h2
      rw [← hm] at h1 h2
      exact ⟨a, c, h1, h2, h3, hu.trans (h3.mono hu.size)⟩
  have HBH : Hid (∀ u v', u.ownsRow (W.heap.size + 2) 3 1 v' (m + 1) (intCells (L ++ [x])) → Below W.heap.size W u →
      Calls Try.prog 29 #[.agg #[.int .i64 ep, .slice a0 L.length c0], v'] u fun e w' => ∃ a n c, e = .returned (.tuple #[.agg #[.int .i64 ep', .slice a n c], .int .i64 er]) ∧ Hid ((er = 0 → n = m + 1 ∧ w'.ownsRow (W.heap.size + 2) 3 1 (.slice a n c) (m + 1) (intCells (L ++ [x]))) ∧ (er = 1 → a = none ∧ n = 0 ∧ c = 0) ∧ Below u.heap.size u w' ∧ Below W.heap.size W w')) := fun u v' ho hu => by
    have hi := ints_own ho (Nat.le_refl _)
    rcases hE with ⟨hmay, rfl, rfl⟩ | ⟨hmay, rfl, rfl⟩
    · refine (chbehind_yes ep (.slice a0 L.length c0) v' (L ++ [x]) _ u hi (Nat.le_refl _) he hmay).mono fun e w' ⟨h1, h2⟩ => ?_
      obtain ⟨a, c, rfl⟩ := own_shape ho
      exact ⟨a, _, c, h1, fun _ => ⟨rfl, rowOn ho h2⟩, (fun h => by cases h), h2, hu.trans (h2.mono hu.size)⟩
    · refine (chbehind_no ep (.slice a0 L.length c0) v' (L ++ [x]) _ u hi (Nat.le_refl _) he hmay).mono fun e w' ⟨h1, h2⟩ => ?_
      exact ⟨none, 0, 0, h1, (fun h => by cases h), fun _ => ⟨rfl, rfl, rfl⟩, h2, hu.trans (h2.mono hu.size)⟩
  have HW := Lib.hid hW
  have RW := Lib.hid rW
  have HBW := Lib.hid hbW
  have HM := Lib.hid hm
  rw [← hm] at hW bC HBH HS HC
  have HW2 := Lib.hid hW
  have NB : Hid ((((W.alloc (.cells #[.int .i64 x] 3)).alloc (.cells #[.slice a0 m c0, .slice (some ⟨W.heap.size, 0, none⟩) 1 1] 22)).drew).heap[W.heap.size + 1]? = some (.cells #[.slice a0 m c0, .slice (some ⟨W.heap.size, 0, none⟩) 1 1] 22 (0, 0))) := by
    have h := heap_alloc_new (W.alloc (.cells #[.int .i64 x] 3)) (.cells #[.slice a0 m c0, .slice (some ⟨W.heap.size, 0, none⟩) 1 1] 22)
    rw [World.size_alloc] at h
    exact h
  have NX : Hid ((((W.alloc (.cells #[.int .i64 x] 3)).alloc (.cells #[.slice a0 m c0, .slice (some ⟨W.heap.size, 0, none⟩) 1 1] 22)).drew).cell? ⟨W.heap.size, 0, none⟩ = some (.int .i64 x)) := by
    have h := cell_of_one (heap_alloc_new W (.cells #[.int .i64 x] 3))
    exact (((Below.refl _ (W.alloc (.cells #[.int .i64 x] 3))).alloc (Nat.le_refl _) _).cell (p := ⟨W.heap.size, 0, none⟩) (by simp)).trans h
  have HSW := Lib.hid hsW
  clear hI hW cW rW hbW hE hsW
  rw [← hm]
  clear hm
  go_enter Try.func11, Try.ntmps11
  go_wp2_with fail
  rw [← HW2.out]
  refine wp_region_held_drew (S := BoxC w.heap.size ep (.slice a0 m c0)) (by kernel_rfl) (bC) (fun hHeld => ?_)
  first
    | (refine held_take 0 6 (v := ?_) rfl rfl (by kernel_rfl) (by kernel_rfl) (by kernel_rfl) (fun _ _ _ h => h) (by assumption) (by rfl) ?_ ?_; rotate_left; (focus (intro w hSw; obtain ⟨hS0, hS1⟩ := hSw; go_simp <;> with_reducible rfl)))
    | refine held_pass 0 6 rfl rfl (by kernel_rfl) (by kernel_rfl) (by kernel_rfl) (fun _ _ _ h => h) (by assumption) (by rfl) ?_
  simp only [Act.put, List.setIfInBounds_toArray, List.set_cons_zero, List.set_cons_succ]
  first
    | (refine held_take 1 7 (v := ?_) rfl rfl (by kernel_rfl) (by kernel_rfl) (by kernel_rfl) (fun _ _ _ h => h) (by assumption) (by rfl) ?_ ?_; rotate_left; (focus (intro w hSw; obtain ⟨hS0, hS1⟩ := hSw; go_simp <;> with_reducible rfl)))
    | refine held_pass 1 7 rfl rfl (by kernel_rfl) (by kernel_rfl) (by kernel_rfl) (fun _ _ _ h => h) (by assumption) (by rfl) ?_
  simp only [Act.put, List.setIfInBounds_toArray, List.set_cons_zero, List.set_cons_succ]
  first
    | (refine held_take 2 8 (v := ?_) rfl rfl (by kernel_rfl) (by kernel_rfl) (by kernel_rfl) (fun _ _ _ h => h) (by assumption) (by rfl) ?_ ?_; rotate_left; (focus (intro w hSw; obtain ⟨hS0, hS1⟩ := hSw; go_simp <;> with_reducible rfl)))
    | refine held_pass 2 8 rfl rfl (by kernel_rfl) (by kernel_rfl) (by kernel_rfl) (fun _ _ _ h => h) (by assumption) (by rfl) ?_
  simp only [Act.put, List.setIfInBounds_toArray, List.set_cons_zero, List.set_cons_succ]
  first
    | (refine held_take 3 9 (v := ?_) rfl rfl (by kernel_rfl) (by kernel_rfl) (by kernel_rfl) (fun _ _ _ h => h) (by assumption) (by rfl) ?_ ?_; rotate_left; (focus (intro w hSw; obtain ⟨hS0, hS1⟩ := hSw; go_simp <;> with_reducible rfl)))
    | refine held_pass 3 9 rfl rfl (by kernel_rfl) (by kernel_rfl) (by kernel_rfl) (fun _ _ _ h => h) (by assumption) (by rfl) ?_
  simp only [Act.put, List.setIfInBounds_toArray, List.set_cons_zero, List.set_cons_succ]
  refine held_call 4 10 rfl rfl (by kernel_rfl) (by rfl) (fun K hK => ?_)
  simp only [Go.wp_at_succ, Go.wp_at_zero]
  go_simp
  
  first | (with_reducible refine hK.out _ _ ?_ (fun hHeld => ?_)) | (go_wp2_with fail; refine hK.out _ _ ?_ (fun hHeld => ?_))
  · exact HS.out _ (by go_grown)
  clear hK K
  try simp only [Act.put, List.setIfInBounds_toArray, List.set_cons_zero, List.set_cons_succ]
  refine held_call 5 11 rfl rfl (by kernel_rfl) (by rfl) (fun K hK => ?_)
  simp only [Go.wp_at_succ, Go.wp_at_zero]
  go_simp
  
  first | (with_reducible refine hK.out _ _ ?_ (fun hHeld => ?_)) | (go_wp2_with fail; refine hK.out _ _ ?_ (fun hHeld => ?_))
  · exact HS.out _ (by go_grown)
  clear hK K
  try simp only [Act.put, List.setIfInBounds_toArray, List.set_cons_zero, List.set_cons_succ]
  refine held_call 6 12 rfl rfl (by kernel_rfl) (by rfl) (fun K hK => ?_)
  simp only [Go.wp_at_succ, Go.wp_at_zero]
  go_simp
  refine (HC.out _ _ ?b1 ?b2 ?b3 ?b4).mono ?_
  case b1 => go_grown
  case b2 => exact NB.out
  case b3 => exact NX.out
  case b4 => simp; omega
  rintro e u1 ⟨a1, c1, rfl, H1⟩
  first | (with_reducible refine hK.out _ _ ?_ (fun hHeld => ?_)) | (go_wp2_with fail; refine hK.out _ _ ?_ (fun hHeld => ?_))
  · exact HS.out _ H1.out.2.2
  clear hK K
  try simp only [Act.put, List.setIfInBounds_toArray, List.set_cons_zero, List.set_cons_succ]
  refine held_call 7 13 rfl rfl (by kernel_rfl) (by rfl) (fun K hK => ?_)
  simp only [Go.wp_at_succ, Go.wp_at_zero]
  go_simp
  refine (HBH.out _ _ ?b1 H1.out.2.2).mono ?_
  case b1 => have := H1.out.1; simpa using this
  rintro e u2 ⟨a2, n2, c2, rfl, H2⟩
  have KL := H1.out.2.2.size
  first | (with_reducible refine hK.out _ _ ?_ (fun hHeld => ?_)) | (go_wp2_with fail; refine hK.out _ _ ?_ (fun hHeld => ?_))
  · exact HS.out _ H2.out.2.2.2
  clear hK K
  try simp only [Act.put, List.setIfInBounds_toArray, List.set_cons_zero, List.set_cons_succ]
  have R2 := Lib.hid (RW.out.keep H2.out.2.2.2 RW.out.lt)
  obtain ⟨y0, y1, z0, z1⟩ := R2.out.cells
  have hsw := HSW.out
  have KL2 := H2.out.2.2.2.size
  obtain ⟨k1, k2⟩ := R2.out.stored (ep' := ep') (v' := .slice a2 n2 c2)
  have K1 := Lib.hid k1
  have K2 := Lib.hid k2
  have KS : Hid (BoxC w.heap.size ep (.slice a0 m c0) (chW u2 (w.heap.size + 1) ep' (.slice a2 n2 c2))) := ⟨(k2.cell (p := ⟨w.heap.size, 0, none⟩) (show w.heap.size < u2.heap.size by omega) (by simp)).trans hHeld.1, (k2.cell (p := ⟨w.heap.size, 1, none⟩) (show w.heap.size < u2.heap.size by omega) (by simp)).trans hHeld.2⟩
  clear k1 k2 hsw
  first
    | (refine held_take 8 14 (v := ?_) rfl rfl (by kernel_rfl) (by kernel_rfl) (by kernel_rfl) (fun _ _ _ h => h) (by assumption) (by rfl) ?_ ?_; rotate_left; (focus (intro w hSw; obtain ⟨hS0, hS1⟩ := hSw; go_simp <;> with_reducible rfl)))
    | refine held_pass 8 14 rfl rfl (by kernel_rfl) (by kernel_rfl) (by kernel_rfl) (fun _ _ _ h => h) (by assumption) (by rfl) ?_
  simp only [Act.put, List.setIfInBounds_toArray, List.set_cons_zero, List.set_cons_succ]
  first
    | (refine held_take 9 15 (v := ?_) rfl rfl (by kernel_rfl) (by kernel_rfl) (by kernel_rfl) (fun _ _ _ h => h) (by assumption) (by rfl) ?_ ?_; rotate_left; (focus (intro w hSw; obtain ⟨hS0, hS1⟩ := hSw; go_simp <;> with_reducible rfl)))
    | refine held_pass 9 15 rfl rfl (by kernel_rfl) (by kernel_rfl) (by kernel_rfl) (fun _ _ _ h => h) (by assumption) (by rfl) ?_
  simp only [Act.put, List.setIfInBounds_toArray, List.set_cons_zero, List.set_cons_succ]
  refine wpAnyH_ready (rs := [10]) (by kernel_rfl) (by simp) (AllReadyH.cons rfl (fun K hK => ?_) AllReadyH.nil)
  try simp only [Go.wp_at_succ, Go.wp_at_zero]
  go_simp
  refine hK.out _ _ ?_ (fun hHeld => ?_)
  · exact KS.out
  clear hK K
  try simp only [Act.put, List.setIfInBounds_toArray, List.set_cons_zero, List.set_cons_succ]
  first
    | (refine held_take 11 5 (v := ?_) rfl rfl (by kernel_rfl) (by kernel_rfl) (by kernel_rfl) (fun _ _ _ h => h) (by assumption) (by rfl) ?_ ?_; rotate_left; (focus (intro w hSw; obtain ⟨hS0, hS1⟩ := hSw; go_simp <;> with_reducible rfl)))
    | refine held_pass 11 5 rfl rfl (by kernel_rfl) (by kernel_rfl) (by kernel_rfl) (fun _ _ _ h => h) (by assumption) (by rfl) ?_
  simp only [Act.put, List.setIfInBounds_toArray, List.set_cons_zero, List.set_cons_succ]
  refine wpAnyH_done (by kernel_rfl) ?_ _
  go_wp2
  obtain ⟨e0, e1, _, _⟩ := K1.out.cells
  unfold chW at e0 e1
  refine bodyPost_ret (v := .tuple #[.agg #[.int .i64 ep', .slice a2 n2 c2], .int .i64 er]) (by simp [results, Try.results11, go_sem, e0, e1]) rfl ⟨a2, n2, c2, rfl, fun h0 => ?_, H2.out.2.1, K2.out.below (HBW.out.trans (H2.out.2.2.2.mono HBW.out.size)) (fun x hx => by omega) (by have := HSW.out; omega)⟩
  obtain ⟨h1, h2⟩ := H2.out.1 h0
  have h3 := HSW.out
  exact ⟨h1, own_base (own_only h2 K2.out (by have := (RW.out.lt); omega)) (by omega)⟩
end Go.Proofs.Ytnliadnpoledmaa
