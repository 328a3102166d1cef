/-
  PROVED: casebooklaw8.WalReads answers true and leaves its arguments as they were, for any two slices of bytes: the row's own reading and nothing else is assumed.
-/
import Derived.Test.YtpmigpgkicacpaaWalT
import Derived.Test.YtpmigpgkicacpaaPackArgs
namespace Go.Proofs.Ytpmigpgkicacpaa.WalReads
open Go.ChangeShapes Go.WideShapes Go.ChangeAt Go.RowKit

set_option maxRecDepth 100000 in
set_option maxHeartbeats 4000000 in
theorem walk (va : Value) (la : List UInt8) (vb : Value) (lb : List UInt8) (w : World) (ha : Byt w w.heap.size va la) (hb : Byt w w.heap.size vb lb) :
    Calls Try.prog 3 #[va, vb] w fun e w' => e = .returned (.bool true) ∧ Below w.heap.size w w' := by
  have HT := Lib.hid (fun u => told8_any u)
  have HA := Lib.hid ha
  have HB := Lib.hid hb
  obtain ⟨aa, ca, rfl, _⟩ := ha
  obtain ⟨ab, cb, rfl, _⟩ := hb
  by_cases h1 : la.length ≤ 1000 ∧ lb.length ≤ 5000
  · obtain ⟨h1, h2⟩ := h1
    have HRd : Hid (∀ u, Below w.heap.size w u → Calls Try.prog 11 #[.slice aa la.length ca] u fun e u' => ∃ (L : List (List UInt8)) (m : Nat) (v : Value), e = .returned (.tuple #[v, .int .i64 m]) ∧ (∃ a c, v = .slice a L.length c) ∧ Hid (Rds la L m) ∧ Hid (BytsAt u' u'.heap.size v L) ∧ Below w.heap.size w u') := fun u hu => by
      refine (wread_any _ _ la u (HA.out.keep hu) hu.size (by omega)).mono ?_
      rintro e u' ⟨L, m, hr, v, rfl, h3, h4⟩
      exact ⟨L, m, v, rfl, h3.shape, hr, h3.at, hu.trans (h4.mono hu.size)⟩
    have HRf : Hid (∀ u, Below w.heap.size w u → Calls Try.prog 12 #[.string ⟨la.toArray⟩] u fun e u' => ∃ (L : List (List UInt8)) (m : Nat) (v : Value), e = .returned (.tuple #[v, .int .i64 m]) ∧ (∃ a c, v = .slice a L.length c) ∧ Hid (Rds la L m) ∧ Hid (StrsAt u' u'.heap.size v L) ∧ Below u.heap.size u u') := fun u hu => by
      refine (refread_any ⟨la.toArray⟩ u (by show la.toArray.size ≤ _; rw [List.size_toArray]; omega)).mono ?_
      rintro e u' ⟨L, m, hr, v, rfl, h3, h4⟩
      exact ⟨L, m, v, rfl, own_shape h3, hr, strs_own h3, h4⟩
    have HTx : Hid (∀ (u : World) (v v' : Value) (L : List (List UInt8)) (B : Nat), L.length ≤ 1000000 → BytsAt u B v L → StrsAt u B v' L → Calls Try.prog 13 #[v, v'] u fun e u' => e = .returned (.bool true) ∧ ∃ n, u' = u.drewN n) := fun u v v' L B hL g1 g2 => texts_yes v v' B L u g1 g2 hL
    have HCnt : Hid (∀ L m, Rds la L m → L.length ≤ 1000000) := fun L m hr => by
      obtain ⟨rest, he, _⟩ := hr.split
      have := frs_many L hr.ok
      have h5 := congrArg List.length he
      rw [List.length_append] at h5
      omega
    by_cases h3 : lb.length < 1 ∨ 4096 < lb.length
    · have HNo := Lib.hid fun u => frame_no ab lb.length cb u h3
      rcases h3 with h3 | h3
      all_goals
        go_enter Try.func3, Try.ntmps3
        go_wp2_with fail
        all_goals first
          | (exfalso; omega)
          | skip
        refine (HNo.out _).mono ?_
        rintro e w1 ⟨rfl, rfl⟩
        go_wp2_with fail
        all_goals first
          | (exfalso; omega)
          | skip
        have B1 : Below w.heap.size w w := Below.refl _ _
        go_wp2_with fail
        refine (HRd.out _ B1).mono ?_
        rintro e w2 ⟨L, m, v2, rfl, ⟨a2, c2, rfl⟩, R2, Y2, hb2⟩
        have B2 := Lib.hid hb2
        clear B1 hb2
        have hk := run_conv_byt (HA.out.keep B2.out)
        go_wp2_with fail
        refine (HRf.out _ B2.out).mono ?_
        rintro e w3 ⟨L3, m3, v3, rfl, ⟨a3, c3, rfl⟩, R3, Y3, hb3⟩
        clear hk
        obtain ⟨rfl, rfl⟩ := R2.out.unique R3.out
        have B3 := Lib.hid hb3
        clear hb3
        go_wp2_with fail
        refine (HT.out _).mono ?_
        rintro e w4 ⟨rfl, hb4⟩
        have B4 := Lib.hid hb4
        clear hb4
        go_wp2_with (go_at_call 13; (with_reducible refine (HTx.out _ _ _ L w3.heap.size (HCnt.out _ _ R2.out) (((Y2.out.keep B3.out).mono B3.out.size).keep B4.out) (Y3.out.keep B4.out)).mono ?_); rintro e w5 ⟨rfl, n5, rfl⟩)
        go_returns
        exact ⟨rfl, (((B2.out.trans (B3.out.mono B2.out.size)).trans (B4.out.mono (Nat.le_trans B2.out.size B3.out.size))).trans ⟨rfl, rfl, rfl, Nat.le_refl _, fun _ _ => rfl⟩)⟩
    · have h4 : 1 ≤ lb.length := by omega
      have h5 : lb.length ≤ 4096 := by omega
      have HYes : Hid (Calls Try.prog 9 #[.slice ab lb.length cb] w fun e u' => ∃ a n c, e = .returned (.tuple #[.slice a n c, .int .i64 0]) ∧ Hid (∀ u, Below u'.heap.size u' u → (convert 22 9 (.slice a n c)).run Try.prog u = .ok (.string ⟨(frm lb).toArray⟩) u ∧ (convert 22 9 (.slice ab lb.length cb)).run Try.prog u = .ok (.string ⟨lb.toArray⟩) u) ∧ Below w.heap.size w u') := by
        refine (frame_yes _ _ lb w HB.out (Nat.le_refl _) ⟨h4, h5⟩).mono ?_
        rintro e u' ⟨a, c, rfl, g1, g2⟩
        refine ⟨a, _, c, rfl, fun u hu => ⟨run_conv_byt ((byt_own g1 (Nat.le_refl _)).keep hu), run_conv_byt (HB.out.keep (g2.trans (hu.mono g2.size)))⟩, g2⟩
      have HFr : Hid (∀ u, Calls Try.prog 10 #[.string ⟨lb.toArray⟩] u fun e u' => e = .returned (.string ⟨(frm lb).toArray⟩) ∧ Below u.heap.size u u') := fun u => refframe_any ⟨lb.toArray⟩ u (by show lb.toArray.size ≤ _; rw [List.size_toArray]; omega)
      obtain ⟨X, hX⟩ : ∃ X : ByteArray, X = ⟨(frm lb).toArray⟩ := ⟨_, rfl⟩
      rw [← hX] at HYes HFr
      clear hX
      have hd1 : decide ((lb.length : Int) < 1) = false := decide_eq_false (by omega)
      have hd2 : decide (4096 < (lb.length : Int)) = false := decide_eq_false (by omega)
      go_enter Try.func3, Try.ntmps3
      go_wp2_with fail
      all_goals first
        | (exfalso; omega)
        | skip
      refine HYes.out.mono ?_
      rintro e w1 ⟨fa, fn, fc, rfl, FX, hb1⟩
      have B1' := Lib.hid hb1
      clear hb1
      go_wp2_with fail
      all_goals first
        | (exfalso; omega)
        | skip
      refine wp_region_held_drew (S := fun u => Below w1.heap.size w1 u) (by kernel_rfl) (⟨rfl, rfl, rfl, Nat.le_refl _, fun _ _ => rfl⟩) (fun hHeld => ?_)
      first
        | (refine held_take 0 40 (v := ?_) rfl rfl (by kernel_rfl) (by kernel_rfl) (by kernel_rfl) (fun _ _ _ h => h) (by assumption) (by rfl) ?_ ?_; rotate_left; (focus (intro w hSw; (have z1 := (FX.out _ hSw).1; have z2 := (FX.out _ hSw).2); go_simp <;> with_reducible rfl)))
        | refine held_pass 0 40 rfl rfl (by kernel_rfl) (by kernel_rfl) (by kernel_rfl) (fun _ _ _ h => h) (by assumption) (by rfl) ?_
      simp only [Act.put, List.setIfInBounds_toArray, List.set_cons_zero, List.set_cons_succ]
      first
        | (refine held_take 1 41 (v := ?_) rfl rfl (by kernel_rfl) (by kernel_rfl) (by kernel_rfl) (fun _ _ _ h => h) (by assumption) (by rfl) ?_ ?_; rotate_left; (focus (intro w hSw; (have z1 := (FX.out _ hSw).1; have z2 := (FX.out _ hSw).2); go_simp <;> with_reducible rfl)))
        | refine held_pass 1 41 rfl rfl (by kernel_rfl) (by kernel_rfl) (by kernel_rfl) (fun _ _ _ h => h) (by assumption) (by rfl) ?_
      simp only [Act.put, List.setIfInBounds_toArray, List.set_cons_zero, List.set_cons_succ]
      first
        | (refine held_take 2 42 (v := ?_) rfl rfl (by kernel_rfl) (by kernel_rfl) (by kernel_rfl) (fun _ _ _ h => h) (by assumption) (by rfl) ?_ ?_; rotate_left; (focus (intro w hSw; (have z1 := (FX.out _ hSw).1; have z2 := (FX.out _ hSw).2); go_simp <;> with_reducible rfl)))
        | refine held_pass 2 42 rfl rfl (by kernel_rfl) (by kernel_rfl) (by kernel_rfl) (fun _ _ _ h => h) (by assumption) (by rfl) ?_
      simp only [Act.put, List.setIfInBounds_toArray, List.set_cons_zero, List.set_cons_succ]
      first
        | (refine held_take 3 43 (v := ?_) rfl rfl (by kernel_rfl) (by kernel_rfl) (by kernel_rfl) (fun _ _ _ h => h) (by assumption) (by rfl) ?_ ?_; rotate_left; (focus (intro w hSw; (have z1 := (FX.out _ hSw).1; have z2 := (FX.out _ hSw).2); go_simp <;> with_reducible rfl)))
        | refine held_pass 3 43 rfl rfl (by kernel_rfl) (by kernel_rfl) (by kernel_rfl) (fun _ _ _ h => h) (by assumption) (by rfl) ?_
      simp only [Act.put, List.setIfInBounds_toArray, List.set_cons_zero, List.set_cons_succ]
      first
        | (refine held_take 4 44 (v := ?_) rfl rfl (by kernel_rfl) (by kernel_rfl) (by kernel_rfl) (fun _ _ _ h => h) (by assumption) (by rfl) ?_ ?_; rotate_left; (focus (intro w hSw; (have z1 := (FX.out _ hSw).1; have z2 := (FX.out _ hSw).2); go_simp <;> with_reducible rfl)))
        | refine held_pass 4 44 rfl rfl (by kernel_rfl) (by kernel_rfl) (by kernel_rfl) (fun _ _ _ h => h) (by assumption) (by rfl) ?_
      simp only [Act.put, List.setIfInBounds_toArray, List.set_cons_zero, List.set_cons_succ]
      first
        | (refine held_take 5 45 (v := ?_) rfl rfl (by kernel_rfl) (by kernel_rfl) (by kernel_rfl) (fun _ _ _ h => h) (by assumption) (by rfl) ?_ ?_; rotate_left; (focus (intro w hSw; (have z1 := (FX.out _ hSw).1; have z2 := (FX.out _ hSw).2); go_simp <;> with_reducible rfl)))
        | refine held_pass 5 45 rfl rfl (by kernel_rfl) (by kernel_rfl) (by kernel_rfl) (fun _ _ _ h => h) (by assumption) (by rfl) ?_
      simp only [Act.put, List.setIfInBounds_toArray, List.set_cons_zero, List.set_cons_succ]
      first
        | (refine held_take 6 46 (v := ?_) rfl rfl (by kernel_rfl) (by kernel_rfl) (by kernel_rfl) (fun _ _ _ h => h) (by assumption) (by rfl) ?_ ?_; rotate_left; (focus (intro w hSw; (have z1 := (FX.out _ hSw).1; have z2 := (FX.out _ hSw).2); go_simp <;> with_reducible rfl)))
        | refine held_pass 6 46 rfl rfl (by kernel_rfl) (by kernel_rfl) (by kernel_rfl) (fun _ _ _ h => h) (by assumption) (by rfl) ?_
      simp only [Act.put, List.setIfInBounds_toArray, List.set_cons_zero, List.set_cons_succ]
      refine held_call 7 47 rfl rfl (by kernel_rfl) (by rfl) (fun K hK => ?_)
      simp only [Go.wp_at_succ, Go.wp_at_zero]
      go_simp
      go_at_call 10
      (with_reducible refine (HFr.out _).mono ?_)
      rintro e u1 ⟨rfl, hb⟩
      have D1 : Below w1.heap.size w1 u1 := hHeld.trans (hb.mono hHeld.size)
      clear hb
      first | (with_reducible refine hK.out _ _ ?_ (fun hHeld => ?_)) | (go_wp2_with fail; refine hK.out _ _ ?_ (fun hHeld => ?_))
      · exact D1
      clear hK K
      try simp only [Act.put, List.setIfInBounds_toArray, List.set_cons_zero, List.set_cons_succ]
      first
        | (refine held_take 8 48 (v := ?_) rfl rfl (by kernel_rfl) (by kernel_rfl) (by kernel_rfl) (fun _ _ _ h => h) (by assumption) (by rfl) ?_ ?_; rotate_left; (focus (intro w hSw; (have z1 := (FX.out _ hSw).1; have z2 := (FX.out _ hSw).2); go_simp <;> with_reducible rfl)))
        | refine held_pass 8 48 rfl rfl (by kernel_rfl) (by kernel_rfl) (by kernel_rfl) (fun _ _ _ h => h) (by assumption) (by rfl) ?_
      simp only [Act.put, List.setIfInBounds_toArray, List.set_cons_zero, List.set_cons_succ]
      first
        | (refine held_take 9 49 (v := ?_) rfl rfl (by kernel_rfl) (by kernel_rfl) (by kernel_rfl) (fun _ _ _ h => h) (by assumption) (by rfl) ?_ ?_; rotate_left; (focus (intro w hSw; (have z1 := (FX.out _ hSw).1; have z2 := (FX.out _ hSw).2); go_simp <;> with_reducible rfl)))
        | refine held_pass 9 49 rfl rfl (by kernel_rfl) (by kernel_rfl) (by kernel_rfl) (fun _ _ _ h => h) (by assumption) (by rfl) ?_
      simp only [Act.put, List.setIfInBounds_toArray, List.set_cons_zero, List.set_cons_succ]
      refine wpAnyH_done (by kernel_rfl) ?_ _
      have B1 : Below w.heap.size w u1 := B1'.out.trans (D1.mono B1'.out.size)
      go_wp2_with fail
      refine (HRd.out _ B1).mono ?_
      rintro e w2 ⟨L, m, v2, rfl, ⟨a2, c2, rfl⟩, R2, Y2, hb2⟩
      have B2 := Lib.hid hb2
      clear B1 hb2
      have hk := run_conv_byt (HA.out.keep B2.out)
      go_wp2_with fail
      refine (HRf.out _ B2.out).mono ?_
      rintro e w3 ⟨L3, m3, v3, rfl, ⟨a3, c3, rfl⟩, R3, Y3, hb3⟩
      clear hk
      obtain ⟨rfl, rfl⟩ := R2.out.unique R3.out
      have B3 := Lib.hid hb3
      clear hb3
      go_wp2_with fail
      refine (HT.out _).mono ?_
      rintro e w4 ⟨rfl, hb4⟩
      have B4 := Lib.hid hb4
      clear hb4
      go_wp2_with (go_at_call 13; (with_reducible refine (HTx.out _ _ _ L w3.heap.size (HCnt.out _ _ R2.out) (((Y2.out.keep B3.out).mono B3.out.size).keep B4.out) (Y3.out.keep B4.out)).mono ?_); rintro e w5 ⟨rfl, n5, rfl⟩)
      go_returns
      exact ⟨rfl, (((B2.out.trans (B3.out.mono B2.out.size)).trans (B4.out.mono (Nat.le_trans B2.out.size B3.out.size))).trans ⟨rfl, rfl, rfl, Nat.le_refl _, fun _ _ => rfl⟩)⟩
  · clear HA HB
    go_enter Try.func3, Try.ntmps3
    rcases (show 1000 < la.length ∨ (la.length ≤ 1000 ∧ 5000 < lb.length) by omega) with h | ⟨h, h'⟩
    all_goals
      go_wp2_with (go_at_call 8; (with_reducible refine (HT.out _).mono ?_); rintro e w9 ⟨rfl, hb⟩; have B9 := Lib.hid hb; clear hb)
      go_returns
      exact ⟨rfl, B9.out⟩

set_option maxRecDepth 100000 in
theorem lifted (os : Os) (started : os.Started) (H : Type) (enc : TypeId × Value → H) :
    ReturnsInHanded {} Try.checked os 3 .any (Rows.walReadsSpec.pre6 enc Try.prog Try.f3 Rows.walReadsRow.domain false) (Rows.walReadsSpec.post enc Try.prog Try.f3 false true false false) := by
  refine returnsInHanded_of_change (C := Try.checked) own started (by kernel_rfl) Try.func3
    (ChangeSpec.witness6 (enc := enc) (C := Try.checked) false ⟨#[], #[.slice none 0 0, .slice none 0 0], []⟩ 8 (by kernel_rfl) (by kernel_rfl) (by kernel_rfl) (by kernel_rfl)) ?_
  intro W base args ds gs before hval0 hW hcnd _
  have hval : ∀ (j : Nat) t v, Try.f3.params[j]? = some t → args[j]? = some v → Value.okWide Try.prog W .any base t v := hval0
  have hW' := hW
  obtain ⟨p, q, hA0, hV, rfl, hfz, hnd⟩ := hW
  have hA : DataW.TrodAll enc Try.prog W 0 (fun _ => true) true Try.f3.params.toList args.toList ds p := hA0
  rw [Try.params3] at hA hval
  obtain ⟨v0, vs0, d0, ds0, p0, q0, hargs, rfl, rfl, h0, r0⟩ := trodAll_cons hA
  obtain ⟨v1, vs1, d1, ds1, p1, q1, rfl, rfl, rfl, h1, r1⟩ := trodAll_cons r0
  obtain ⟨rfl, rfl, rfl⟩ := trodAll_nil r1
  obtain rfl : args = #[v0, v1] := by cases args; simp_all
  obtain ⟨rfl, rfl⟩ := trodVars_none hV
  obtain ⟨a0, len0, cap0, rfl⟩ := okWide_slice Try.underlying22 (hval 0 22 v0 rfl rfl)
  have k0 := h0
  have lt0 : ∀ x ∈ p0, x.block < W.heap.size := by obtain ⟨m, hm⟩ := k0; exact DataW.trod_lt m _ _ _ hm
  obtain ⟨l0, w0⟩ : ∃ l, Byt W W.heap.size (.slice a0 len0 cap0) l := by
    obtain ⟨fuel, hf⟩ := h0
    rcases open_ints Try.underlying22 Try.underlying5 (by kernel_rfl) hf with ⟨hcs, _⟩ | ⟨x, l, c, zs, hcs, _, hl, hm, hz, _, hcell, hwz⟩
    · simp [Value.cells] at hcs
      obtain ⟨rfl, rfl, rfl⟩ := hcs
      exact ⟨[], Byt.none _ _⟩
    · simp [Value.cells] at hcs
      obtain ⟨rfl, rfl, rfl⟩ := hcs
      obtain ⟨l, _, hb⟩ := byt_row hl hm (by simpa using hz) hcell hwz
      exact ⟨l, hb⟩
  obtain ⟨a1, len1, cap1, rfl⟩ := okWide_slice Try.underlying22 (hval 1 22 v1 rfl rfl)
  have k1 := h1
  have lt1 : ∀ x ∈ p1, x.block < W.heap.size := by obtain ⟨m, hm⟩ := k1; exact DataW.trod_lt m _ _ _ hm
  obtain ⟨l1, w1⟩ : ∃ l, Byt W W.heap.size (.slice a1 len1 cap1) l := by
    obtain ⟨fuel, hf⟩ := h1
    rcases open_ints Try.underlying22 Try.underlying5 (by kernel_rfl) hf with ⟨hcs, _⟩ | ⟨x, l, c, zs, hcs, _, hl, hm, hz, _, hcell, hwz⟩
    · simp [Value.cells] at hcs
      obtain ⟨rfl, rfl, rfl⟩ := hcs
      exact ⟨[], Byt.none _ _⟩
    · simp [Value.cells] at hcs
      obtain ⟨rfl, rfl, rfl⟩ := hcs
      obtain ⟨l, _, hb⟩ := byt_row hl hm (by simpa using hz) hcell hwz
      exact ⟨l, hb⟩
  clear hA0 hval0
  refine (walk (.slice a0 len0 cap0) l0 (.slice a1 len1 cap1) l1 W w0 w1).mono fun e W' ⟨he, bel⟩ => ?_
  subst he
  exact ⟨_, rfl, _, _, _, [], _, [], hW', trodAll_mk1 (shut_bool Try.underlying4 _), (trodAll_cons_mk (Below.trod laidOut (by kernel_rfl) (of_decide_eq_true (by kernel_rfl)) k0 bel lt0) (trodAll_cons_mk (Below.trod laidOut (by kernel_rfl) (of_decide_eq_true (by kernel_rfl)) k1 bel lt1) trodAll_mk0)), rfl, bel.frame _, fun h => by cases h⟩

theorem over : Rows.walReadsRow.holds Try.pinned (OpenSpec.ofChange Rows.walReadsSpec) :=
  OpenClaim.holds_of_wide 3 Try.f3 rfl rfl rfl rfl rfl rfl rfl ⟨rfl, rfl, rfl, rfl, rfl⟩ rfl rfl rfl rfl rfl (by kernel_rfl) Try.func3 (by kernel_rfl)
    (of_decide_eq_true (by kernel_rfl)) (by unfold Func.isWrapper; first | (rw [if_pos (by decide +kernel)]; kernel_rfl) | (rw [if_neg (by decide +kernel)]; exact ⟨rfl, rfl⟩))
    (fun os started H enc _ => lifted os started H enc)
end Go.Proofs.Ytpmigpgkicacpaa.WalReads

namespace Go.Proofs.Ytpmigpgkicacpaa
theorem walReads_holds : Rows.WalReadsSaid := WalReads.over
#print axioms walReads_holds
end Go.Proofs.Ytpmigpgkicacpaa
