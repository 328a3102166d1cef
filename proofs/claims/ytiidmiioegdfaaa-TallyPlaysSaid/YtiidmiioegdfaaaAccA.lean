/-
  THE PROGRAM's ACCEPTOR, its small parts: the closure that is told of errors in their order, tellEpoch, promisedMoreThan, mayKnow; slices.Clone of ints, copyOf; Known, Vote, New. No condition but that chains have at most a million nodes.
-/
import Derived.Test.YtiidmiioegdfaaaAccV
import Derived.Test.YtiidmiioegdfaaaPackBase
namespace Go.Proofs.Ytiidmiioegdfaaa
open Go.RowKit

set_option maxHeartbeats 400000 in
theorem afirst_any (w : World) : Calls Try.prog 39 #[] w fun e w' => e = .returned (.func (.func 48) #[] #[.pointer (some ⟨w.heap.size, 0, none⟩)]) ∧ w' = w.alloc (.cells #[.int .i64 0] 3) := by
  go_enter Try.func39, Try.ntmps39
  go_wp2
  go_returns
  exact ⟨rfl, by first | rfl | trivial⟩

set_option maxHeartbeats 400000 in
theorem atold_r (b : Bool) (e : Int) (g : Nat) (f : Int) (w : World) (hN : NumB w g f) {R : Int} (hR : firstV f b e = R) :
    Calls Try.prog 48 #[.bool b, .int .i64 e, .pointer (some ⟨g, 0, none⟩)] w fun x w' => x = .returned (.int .i64 R) ∧ NumB w' g R ∧ Only (· = g) w w' := by
  have HN := Lib.hid hN
  obtain ⟨c0, f0⟩ := hN.cells
  cases b with
  | false =>
    obtain rfl : R = f := by rw [← hR, firstV_no]
    clear hR hN
    go_enter Try.func48, Try.ntmps48
    go_wp2
    go_returns
    exact ⟨rfl, HN.out, .refl _ _⟩
  | true =>
    by_cases h0 : f = 0
    · subst h0
      obtain rfl : R = e := by rw [← hR, firstV_yes]
      clear hR hN
      go_enter Try.func48, Try.ntmps48
      go_wp2
      go_returns
      exact ⟨rfl, HN.out.set _, Only.set g 0 w _⟩
    · obtain rfl : R = f := by rw [← hR, firstV_had h0]
      have hb : (R == 0) = false := beq_eq_false_iff_ne.2 h0
      clear hR hN h0
      go_enter Try.func48, Try.ntmps48
      go_wp2
      go_returns
      exact ⟨rfl, HN.out, .refl _ _⟩

set_option maxRecDepth 100000 in
set_option maxHeartbeats 1000000 in
theorem atell_r {T : TypeId} {w : World} {p : Nat} {kv cv : Value} {s : AccV} (hA : AccB T w p kv cv s) (he : wrap64 (s.ke + 1) = s.ke + 1) (ep : Int) (g : Nat) (f : Int) (hN : NumB w g f) (hg : p ≠ g) {R : Int} (hR : firstV (firstV f (decide (ep ≤ s.ke)) 7) (decide (ep ≠ s.ke + 1)) 4 = R) :
    Calls Try.prog 40 #[.pointer (some ⟨p, 0, none⟩), .func (.func 48) #[] #[.pointer (some ⟨g, 0, none⟩)], .int .i64 ep] w fun x w' => x = .returned (.tuple #[]) ∧ NumB w' g R ∧ Only (· = g) w w' := by
  have H1 := Lib.hid (atold_r (decide (ep ≤ s.ke)) 7 g f w hN rfl)
  have H2 : Hid (∀ u, NumB u g (firstV f (decide (ep ≤ s.ke)) 7) → Calls Try.prog 48 #[.bool (decide (ep ≠ s.ke + 1)), .int .i64 4, .pointer (some ⟨g, 0, none⟩)] u fun x w' => x = .returned (.int .i64 R) ∧ NumB w' g R ∧ Only (· = g) u w') := fun u hu => atold_r _ 4 g _ u hu hR
  have HA := Lib.hid hA
  have hne : (ep != s.ke + 1) = decide (ep ≠ s.ke + 1) := by by_cases h : ep = s.ke + 1 <;> simp [h]
  obtain ⟨z, hz⟩ : ∃ z, z = decide (ep ≠ s.ke + 1) := ⟨_, rfl⟩
  obtain ⟨y, hy⟩ : ∃ y, y = decide (ep ≤ s.ke) := ⟨_, rfl⟩
  rw [← hz] at H2 hne
  rw [← hy] at H1
  obtain ⟨_, c1, _⟩ := hA.cells
  clear hA hN hR hz
  go_enter Try.func40, Try.ntmps40
  go_wp2_with fail
  rw [← hy]
  refine H1.out.mono ?_
  rintro e w1 ⟨rfl, N1, O1⟩
  rw [hy] at N1
  have A1 := Lib.hid (HA.out.keep O1 hg)
  have HN := Lib.hid N1
  have HO := Lib.hid O1
  clear N1 O1 c1 hy H1
  obtain ⟨_, c1, _⟩ := A1.out.cells
  go_wp2_with fail
  refine (H2.out _ HN.out).mono ?_
  rintro e w2 ⟨rfl, N2, O2⟩
  go_wp2
  go_end0
  exact ⟨rfl, N2, HO.out.trans O2⟩

set_option maxRecDepth 100000 in
set_option maxHeartbeats 1000000 in
theorem amore_r {T : TypeId} {w : World} {p : Nat} {kv cv : Value} {s : AccV} (hA : AccB T w p kv cv s) (r k : Int) {R : Bool} (hR : decide (cmpV r k s.v.pr s.v.pn < 0) = R) :
    Calls Try.prog 41 #[.pointer (some ⟨p, 0, none⟩), .agg #[.int .i64 r, .int .i64 k]] w fun e w' => e = .returned (.bool R) ∧ Below w.heap.size w w' := by
  have HC := Lib.hid (fun u => vcmp_r r k s.v.pr s.v.pn u rfl)
  have HR := Lib.hid hR
  obtain ⟨c, hc⟩ : ∃ c, c = cmpV r k s.v.pr s.v.pn := ⟨_, rfl⟩
  rw [← hc] at HC HR
  have HA := Lib.hid hA
  have hl := hA.lt
  obtain ⟨W, hW⟩ : ∃ W, W = w.alloc (.cells #[.int .i64 r, .int .i64 k] 23) := ⟨_, rfl⟩
  have FX : Hid (∀ u, Below W.heap.size W u → u.cell? ⟨w.heap.size, 0, none⟩ = some (.int .i64 r) ∧ u.cell? ⟨w.heap.size, 1, none⟩ = some (.int .i64 k) ∧ u.cell? ⟨p, 3, none⟩ = some (.int .i64 s.v.pr) ∧ u.cell? ⟨p, 4, none⟩ = some (.int .i64 s.v.pn)) := fun u hu => by
    have hb : BalB u w.heap.size r k := by rw [hW] at hu; exact (BalB.fresh w r k).keep hu (by simp)
    have ha : AccB T u p kv cv s := (HA.out.on (w' := W) (by rw [hW]; exact (Below.refl _ w).alloc (Nat.le_refl _) _)).on hu
    exact ⟨hb.cells.1, hb.cells.2.1, ha.cells.2.2.2.1, ha.cells.2.2.2.2.1⟩
  have P0 : Below W.heap.size W W.drew := (Below.refl _ _).drew
  have HB : Hid (Below w.heap.size w W) := by rw [hW]; exact (Below.refl _ w).alloc (Nat.le_refl _) _
  clear hA hR hc HA
  go_enter Try.func41, Try.ntmps41
  go_wp2_with fail
  rw [← hW]
  clear hW
  refine region_quiet (fun v => Below W.heap.size W v) (by kernel_rfl) (by kernel_rfl) P0 ?_
  repeat (first
    | go_big_quiet_skip
    | (go_big_quiet_want
       (first
        | (refine quiet_run (v := ?_) ?_ ?_; rotate_left; (intro u hu; obtain ⟨c0, c1, c2, c3⟩ := FX.out u hu; go_simp <;> with_reducible rfl); simp only [Act.put, List.setIfInBounds_toArray, List.set_cons_zero, List.set_cons_succ]; go_big_quiet_on)
        | (refine quiet_enter 33 _ ?_ (fun u hu => (HC.out u).mono fun e u' ⟨he, hb⟩ => ⟨he, hu.trans (hb.mono hu.size)⟩) ?_; (focus (intro u; first | (go_simp; done) | (go_simp; with_reducible rfl))); simp only [Act.put, List.setIfInBounds_toArray, List.set_cons_zero, List.set_cons_succ]; go_big_quiet_on))))
  refine wpQuiet_nil ?_
  intro w4 h4
  have C4 : Hid (Below w.heap.size w w4) := HB.out.trans (h4.mono HB.out.size)
  clear P0 FX h4
  go_wp2
  go_returns
  exact ⟨ret_bool HR.out, C4.out⟩

set_option maxHeartbeats 1000000 in
theorem slclone_some (a : Addr) (n c B : Nat) (L : List Int) (w : World) (hB : Ints w B (.slice (some a) n c) L) (hBw : B ≤ w.heap.size) (hlim : n ≤ 1000000) :
    Calls Try.prog 46 #[.slice (some a) n c] w fun e w' => ∃ v', e = .returned v' ∧ w'.ownsRow w.heap.size 3 1 v' n (intCells L) ∧ Below w.heap.size w w' := by
  obtain ⟨i0, hi, hz0, hz1, hz2⟩ := info_parts info_int12
  have q22 : ∀ (w : World) (a : Option Addr) (n c n' c' : Nat), (binOp .eql 24 (.slice a n c) (.slice none n' c')).run Try.prog w = .ok (.bool a.isNone) w := fun w a n c n' c' => Lib.run_eql_slice_nil w _ _ a n c n' c' Try.underlying24
  have hn : L.length = n := by obtain ⟨ao, cap, he, _⟩ := hB; simp only [Value.slice.injEq] at he; exact he.2.1.symm
  have HS := Lib.hid (csrc (hB.keep (((Below.refl _ _).alloc (Nat.le_refl _) (.cells #[] 3)).mono hBw)))
  rw [hn] at HS
  clear hB hn
  go_enter Try.func46, Try.ntmps46
  go_wp2_with (at_builtin; refine wpList_append_own_src rfl (.tmp 5) (.tmp 6) 24 24 rfl w.heap.size 3 i0 (.int .i64 0) 1 8 Try.underlying24 hi hz0 hz1 hz2 rfl _ _ _ rfl (World.ownsRow_made w #[] 0 (Nat.le_refl _) (Nat.zero_le _) rfl) _ n (intCells L) rfl HS.out ?c3 ?c4 ?c5 ?_)
  case c3 => unfold maxLen; omega
  case c4 => omega
  case c5 => simp
  intro v' w1 hown hgrow
  go_wp2
  go_returns
  refine ⟨v', rfl, by simpa using hown, ?_⟩
  exact ((Below.refl _ w).alloc (Nat.le_refl _) _).grown hgrow (by simp) (by intro k hk; simp [Value.ownBlock] at hk; omega)
set_option maxHeartbeats 1000000 in
theorem slclone_none (n c : Nat) (w : World) :
    Calls Try.prog 46 #[.slice none n c] w fun e w' => e = .returned (.slice none 0 0) ∧ w = w' := by
  have q22 : ∀ (w : World) (a : Option Addr) (n c n' c' : Nat), (binOp .eql 24 (.slice a n c) (.slice none n' c')).run Try.prog w = .ok (.bool a.isNone) w := fun w a n c n' c' => Lib.run_eql_slice_nil w _ _ a n c n' c' Try.underlying24
  go_enter Try.func46, Try.ntmps46
  go_wp2
  go_returns
  exact ⟨rfl, rfl⟩
theorem slclone_r (v : Value) (L : List Int) (B : Nat) (w : World) (hB : Ints w B v L) (hBw : B ≤ w.heap.size) (hlim : L.length ≤ 1000000) :
    Calls Try.prog 46 #[v] w fun e w' => ∃ a c, e = .returned (.slice a L.length c) ∧ Hid (RowI w' (.slice a L.length c) L ∧ Below w.heap.size w w') := by
  have hB' := hB
  obtain ⟨ao, cap, rfl, h1, h2, h3, h4⟩ := hB
  cases ao with
  | some a =>
    refine (slclone_some a _ cap B L w hB' hBw hlim).mono fun e w' ⟨v', he, ho, hb⟩ => ?_
    obtain ⟨a, c, rfl⟩ := own_shape ho
    exact ⟨a, c, he, RowI.own ho, hb⟩
  | none =>
    have hl : L = [] := List.eq_nil_of_length_eq_zero (by have := h3 rfl; omega)
    subst hl
    exact (slclone_none _ _ w).mono fun e w' ⟨he, hw⟩ => by subst hw; exact ⟨_, _, he, RowI.none _, Below.refl _ _⟩

set_option maxRecDepth 100000 in
set_option maxHeartbeats 2000000 in
theorem acopy_r (ep : Int) (v : Value) (L : List Int) (B : Nat) (w : World) (hI : Ints w B v L) (hB : B ≤ w.heap.size) (hlim : L.length ≤ 1000000) :
    Calls Try.prog 45 #[.agg #[.int .i64 ep, v]] w fun e w' => ∃ a c, e = .returned (.agg #[.int .i64 ep, .slice a L.length c]) ∧ Hid (RowI w' (.slice a L.length c) L ∧ Below w.heap.size w w') := by
  obtain ⟨a0, c0, rfl⟩ : ∃ a c, v = .slice a L.length c := by obtain ⟨a, c, h, _⟩ := hI; exact ⟨a, c, h⟩
  obtain ⟨m, hm⟩ : ∃ m, m = L.length := ⟨_, rfl⟩
  obtain ⟨W, hW⟩ : ∃ W, W = (w.alloc (.cells #[.int .i64 ep, .slice a0 L.length c0] 26)).alloc (.cells #[.int .i64 0, .slice none 0 0] 26) := ⟨_, rfl⟩
  have hbW : Below w.heap.size w W := by rw [hW]; exact ((Below.refl _ w).alloc (Nat.le_refl _) _).alloc (by simp) _
  have hsW : W.heap.size = w.heap.size + 2 := by rw [hW]; simp
  have cW : ChT W w.heap.size ep (.slice a0 L.length c0) := by rw [hW]; exact (ChT.fresh w _ _).keep ((Below.refl _ _).alloc (Nat.le_refl _) _) (by simp)
  have rW : ChT W (w.heap.size + 1) 0 (.slice none 0 0) := by
    rw [hW]
    have := ChT.fresh (w.alloc (.cells #[.int .i64 ep, .slice a0 L.length c0] 26)) 0 (.slice none 0 0)
    rwa [World.size_alloc] at this
  have HX : Hid (∀ u, Below W.heap.size W u → Calls Try.prog 46 #[.slice a0 L.length c0] u fun e w' => ∃ a c, e = .returned (.slice a m c) ∧ Hid (RowI w' (.slice a m c) L ∧ Below W.heap.size W w')) := fun u hu => by
    refine (slclone_r _ L B u (hI.keep ((hbW.trans (hu.mono (by omega))).mono hB)) (by have := hu.size; omega) hlim).mono fun e w' ⟨a, c, he, h⟩ => ⟨a, c, by rw [hm]; exact he, by rw [hm]; exact ⟨h.out.1, hu.trans (h.out.2.mono hu.size)⟩⟩
  have HS : Hid (∀ u, Below W.heap.size W u → u.cell? ⟨w.heap.size, 0, none⟩ = some (.int .i64 ep) ∧ u.cell? ⟨w.heap.size, 1, none⟩ = some (.slice a0 L.length c0)) := fun u hu => ⟨(cW.keep hu cW.lt).cells.1, (cW.keep hu cW.lt).cells.2.1⟩
  have RW := Lib.hid rW
  have HBW := Lib.hid hbW
  have HW := Lib.hid hW
  have HSW := Lib.hid hsW
  clear hI hbW cW rW
  rw [← hm] at HX HS HW ⊢
  clear hm hW hsW
  go_enter Try.func45, Try.ntmps45
  go_wp2_with fail
  rw [← HW.out]
  have m0 : Below W.heap.size W W.drew := (Below.refl _ _).drew
  obtain ⟨c1, c2⟩ := HS.out _ (Below.refl _ W)
  obtain ⟨f0, f1, f2, f3⟩ := RW.out.cells
  refine wp_region_held_drew (S := (fun u => u.cell? ⟨w.heap.size, 0, none⟩ = some (.int .i64 ep) ∧ u.cell? ⟨w.heap.size, 1, none⟩ = some (.slice a0 m c0))) (by kernel_rfl) (HS.out _ m0) (fun hHeld => ?_)
  first
    | (refine held_take 0 3 (v := ?_) rfl rfl (by kernel_rfl) (by kernel_rfl) (by kernel_rfl) (fun _ _ _ h => h) (by assumption) (by rfl) ?_ ?_; rotate_left; (focus (intro w hSw; obtain ⟨hS0, hS1⟩ := hSw; go_simp <;> with_reducible rfl)))
    | refine held_pass 0 3 rfl rfl (by kernel_rfl) (by kernel_rfl) (by kernel_rfl) (fun _ _ _ h => h) (by assumption) (by rfl) ?_
  simp only [Act.put, List.setIfInBounds_toArray, List.set_cons_zero, List.set_cons_succ]
  first
    | (refine held_take 1 4 (v := ?_) rfl rfl (by kernel_rfl) (by kernel_rfl) (by kernel_rfl) (fun _ _ _ h => h) (by assumption) (by rfl) ?_ ?_; rotate_left; (focus (intro w hSw; obtain ⟨hS0, hS1⟩ := hSw; go_simp <;> with_reducible rfl)))
    | refine held_pass 1 4 rfl rfl (by kernel_rfl) (by kernel_rfl) (by kernel_rfl) (fun _ _ _ h => h) (by assumption) (by rfl) ?_
  simp only [Act.put, List.setIfInBounds_toArray, List.set_cons_zero, List.set_cons_succ]
  first
    | (refine held_take 2 5 (v := ?_) rfl rfl (by kernel_rfl) (by kernel_rfl) (by kernel_rfl) (fun _ _ _ h => h) (by assumption) (by rfl) ?_ ?_; rotate_left; (focus (intro w hSw; obtain ⟨hS0, hS1⟩ := hSw; go_simp <;> with_reducible rfl)))
    | refine held_pass 2 5 rfl rfl (by kernel_rfl) (by kernel_rfl) (by kernel_rfl) (fun _ _ _ h => h) (by assumption) (by rfl) ?_
  simp only [Act.put, List.setIfInBounds_toArray, List.set_cons_zero, List.set_cons_succ]
  first
    | (refine held_take 3 6 (v := ?_) rfl rfl (by kernel_rfl) (by kernel_rfl) (by kernel_rfl) (fun _ _ _ h => h) (by assumption) (by rfl) ?_ ?_; rotate_left; (focus (intro w hSw; obtain ⟨hS0, hS1⟩ := hSw; go_simp <;> with_reducible rfl)))
    | refine held_pass 3 6 rfl rfl (by kernel_rfl) (by kernel_rfl) (by kernel_rfl) (fun _ _ _ h => h) (by assumption) (by rfl) ?_
  simp only [Act.put, List.setIfInBounds_toArray, List.set_cons_zero, List.set_cons_succ]
  refine held_call 4 7 rfl rfl (by kernel_rfl) (by rfl) (fun K hK => ?_)
  simp only [Go.wp_at_succ, Go.wp_at_zero]
  go_simp
  refine (HX.out _ ?b1).mono ?_
  case b1 => go_grown
  rintro e u1 ⟨a1, kc, rfl, H1⟩
  first | (with_reducible refine hK.out _ _ ?_ (fun hHeld => ?_)) | (go_wp2_with fail; refine hK.out _ _ ?_ (fun hHeld => ?_))
  · exact HS.out _ H1.out.2
  clear hK K
  try simp only [Act.put, List.setIfInBounds_toArray, List.set_cons_zero, List.set_cons_succ]
  first
    | (refine held_take 5 8 (v := ?_) rfl rfl (by kernel_rfl) (by kernel_rfl) (by kernel_rfl) (fun _ _ _ h => h) (by assumption) (by rfl) ?_ ?_; rotate_left; (focus (intro w hSw; obtain ⟨hS0, hS1⟩ := hSw; go_simp <;> with_reducible rfl)))
    | refine held_pass 5 8 rfl rfl (by kernel_rfl) (by kernel_rfl) (by kernel_rfl) (fun _ _ _ h => h) (by assumption) (by rfl) ?_
  simp only [Act.put, List.setIfInBounds_toArray, List.set_cons_zero, List.set_cons_succ]
  have R2 := Lib.hid (RW.out.keep H1.out.2 RW.out.lt)
  obtain ⟨y0, y1, z0, z1⟩ := R2.out.cells
  have KL := H1.out.2.size
  have hsw := HSW.out
  obtain ⟨k1, k2⟩ := R2.out.stored (ep' := ep) (v' := .slice a1 m kc)
  have K1 := Lib.hid k1
  have K2 := Lib.hid k2
  have KS : Hid ((fun u => u.cell? ⟨w.heap.size, 0, none⟩ = some (.int .i64 ep) ∧ u.cell? ⟨w.heap.size, 1, none⟩ = some (.slice a0 m c0)) (chW u1 (w.heap.size + 1) ep (.slice a1 m kc))) := ⟨(k2.cell (p := ⟨w.heap.size, 0, none⟩) (show w.heap.size < u1.heap.size by omega) (by simp)).trans hHeld.1, (k2.cell (p := ⟨w.heap.size, 1, none⟩) (show w.heap.size < u1.heap.size by omega) (by simp)).trans hHeld.2⟩
  clear k1 k2 hsw
  refine wpAnyH_ready (rs := [6]) (by kernel_rfl) (by simp) (AllReadyH.cons rfl (fun K hK => ?_) AllReadyH.nil)
  try simp only [Go.wp_at_succ, Go.wp_at_zero]
  go_simp
  refine hK.out _ _ ?_ (fun hHeld => ?_)
  · exact KS.out
  clear hK K
  try simp only [Act.put, List.setIfInBounds_toArray, List.set_cons_zero, List.set_cons_succ]
  refine wpAnyH_done (by kernel_rfl) ?_ _
  go_wp2
  obtain ⟨e0, e1, _, _⟩ := K1.out.cells
  unfold chW at e0 e1
  refine bodyPost_ret (v := .agg #[.int .i64 ep, .slice a1 m kc]) (by simp [results, Try.results45, go_sem, e0, e1]) rfl ⟨a1, kc, rfl, H1.out.1.beside R2.out (by decide) K2.out, K2.out.below (HBW.out.trans (H1.out.2.mono HBW.out.size)) (fun x hx => by omega) (by have := HSW.out; have := H1.out.2.size; omega)⟩
end Go.Proofs.Ytiidmiioegdfaaa
