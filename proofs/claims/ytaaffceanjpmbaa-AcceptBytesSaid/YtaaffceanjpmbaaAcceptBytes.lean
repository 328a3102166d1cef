/-
  PROVED: casebooklaw13.AcceptBytes answers true and leaves its arguments as they were, for any steps, any place where the bytes go out: the row's own reading and nothing else is assumed.
-/
import Derived.Test.YtaaffceanjpmbaaAccX
import Derived.Test.YtaaffceanjpmbaaAccS
import Derived.Test.YtaaffceanjpmbaaAccF
namespace Go.Proofs.Ytaaffceanjpmbaa.AcceptBytes
open Go.ChangeShapes Go.WideShapes Go.ChangeAt Go.RowKit

set_option maxRecDepth 100000 in
set_option maxHeartbeats 16000000 in
theorem walk (v : Value) (l : List AStepV) (at_ : Int) (w : World) (hS : ASteps w w.heap.size v l) (_ : (Lit.int .i64 at_).wf = true) :
    Calls Try.prog 7 #[v, .int .i64 at_] w fun e w' => e = .returned (.bool true) ∧ Below w.heap.size w w' := by
  have HT := Lib.hid (fun u => told13_any u)
  obtain ⟨ao, cap, rfl, hlm, hfit, hcells⟩ := hS
  obtain ⟨q, hq⟩ : ∃ q, q = l.length := ⟨_, rfl⟩
  obtain ⟨n, hn⟩ : ∃ n, n = w.heap.size := ⟨_, rfl⟩
  have HQL := Lib.hid hq
  have HNN := Lib.hid hn
  rw [← hq, ← hn]
  rw [← hn] at hfit hcells
  have HFIT := Lib.hid hfit
  have HCELLS := Lib.hid hcells
  have HN : Hid (∀ u, Below n w u → n ≤ u.heap.size → Calls Try.prog 9 #[.int .i64 4] u fun e w' => ∃ p, e = .returned (.tuple #[.pointer (some ⟨p, 0, none⟩), .int .i64 0]) ∧ Hid ((AO n w p (AccV.first 4) w' ∧ Below u.heap.size u w') ∧ u.heap.size ≤ p)) := fun u hu hs =>
    (anew_in 4 (by decide) (by decide) u).mono fun _ _ ⟨p, he, hp, ha, hb'⟩ => ⟨p, he, ⟨⟨ha, Nat.le_trans hs hp, Nat.le_trans hs hb'.size, hu.trans (hb'.mono hs), AccV.ok_first 4 (by decide) (by decide)⟩, hb'⟩, hp⟩
  clear hq hn hfit hcells hlm
  go_enter Try.func7, Try.ntmps7
  go_wp2_with fail
  refine (HN.out _ (Below.refl _ _) (by have := HNN.out; omega)).mono ?_
  rintro e w1 ⟨p, rfl, H1⟩
  go_wp2_with fail
  refine (HN.out _ H1.out.1.1.bel H1.out.1.1.size).mono ?_
  rintro e w2 ⟨x00, rfl, H2⟩
  have A2 : Hid (AY n w p x00 (AccV.first 4) (AccV.first 4) w2) := ⟨H1.out.1.1.on H2.out.1.2, H2.out.1.1, by have := H1.out.1.1.a.lt; have := H2.out.2; omega⟩
  clear H1 H2 HN
  by_cases h40 : (40 : Int) < (q : Int)
  · go_wp2_with fail
    refine (HT.out _).mono ?_
    rintro e w3 ⟨rfl, B3⟩
    have A4 := Lib.hid (A2.out.on B3)
    clear B3
    go_wp2
    go_returns
    exact ⟨rfl, A4.out.a.bel⟩
  obtain ⟨kk, hkk, eq⟩ := left_of at_ (q + 1) (by omega) (by omega)
  have E : Hid (wrap64 ((IntKind.u64.wrap at_).tmod ((q : Int) + 1)) = (kk : Int)) := by show _ = _; rw [← eq]; congr 2
  have hq40 : (q : Int) ≤ 40 := by omega
  clear eq
  go_wp2_with fail
  rw [E.out]
  go_loopw [7, 10] (fun s7 s10 wr => ∃ (i x : Nat) (s : AccV), s7 = .pointer (some ⟨x, 0, none⟩) ∧ i ≤ q ∧ s10 = .int .i64 i ∧ Hid (AY n w p x s s wr ∧ s.n = 4)) (fun _ s10 _ => q - (intOf s10).toNat)
  case atStart => exact ⟨0, x00, AccV.first 4, rfl, by omega, rfl, A2.out, rfl⟩
  case round =>
    obtain ⟨i, x0, s, rfl, hiq, rfl, HRN⟩ := hrel
    have HR := Lib.hid HRN.out.1
    have hn4 := HRN.out.2
    clear A2 HRN
    have i0 : (0 : Int) ≤ (i : Int) := by omega
    by_cases hlt : i < q
    case neg =>
      have hle1 : ¬ ((i : Int) < (q : Int)) := by omega
      obtain ⟨z, hz⟩ : ∃ z, z = txt s.bytes := ⟨_, rfl⟩
      have hlen := HR.out.a.ok.len
      have HK1 : Hid (∀ u, Below wr.heap.size wr u → Calls Try.prog 14 #[.pointer (some ⟨p, 0, none⟩)] u fun e w' => ∃ a m c, e = .returned (.agg #[.int .i64 s.ke, .slice a m c]) ∧ Hid (RowI w' (.slice a m c) s.K ∧ Below u.heap.size u w')) := fun u hu => (ao_known (HR.out.a.on hu)).mono fun _ _ ⟨a, m, c, he, hh⟩ => ⟨a, m, c, he, hh.out.1, hh.out.2.2⟩
      have HK2 : Hid (∀ u, Below wr.heap.size wr u → Calls Try.prog 14 #[.pointer (some ⟨x0, 0, none⟩)] u fun e w' => ∃ a m c, e = .returned (.agg #[.int .i64 s.ke, .slice a m c]) ∧ Hid (RowI w' (.slice a m c) s.K ∧ Below u.heap.size u w')) := fun u hu => (ao_known (HR.out.b.on hu)).mono fun _ _ ⟨a, m, c, he, hh⟩ => ⟨a, m, c, he, hh.out.1, hh.out.2.2⟩
      have HV1 : Hid (∀ u, Below wr.heap.size wr u → Calls Try.prog 12 #[.pointer (some ⟨p, 0, none⟩)] u fun e w' => ∃ a m c, e = .returned (.agg #[.int .i64 s.v.pr, .int .i64 s.v.pn, .int .i64 s.v.ar, .int .i64 s.v.an, .bool s.v.has, .int .i64 s.v.ce, .slice a m c]) ∧ Hid (RowI w' (.slice a m c) s.v.C ∧ Below u.heap.size u w')) := fun u hu => (ao_vote (HR.out.a.on hu)).mono fun _ _ ⟨a, m, c, he, hh⟩ => ⟨a, m, c, he, hh.out.1, hh.out.2.2⟩
      have HV2 : Hid (∀ u, Below wr.heap.size wr u → Calls Try.prog 12 #[.pointer (some ⟨x0, 0, none⟩)] u fun e w' => ∃ a m c, e = .returned (.agg #[.int .i64 s.v.pr, .int .i64 s.v.pn, .int .i64 s.v.ar, .int .i64 s.v.an, .bool s.v.has, .int .i64 s.v.ce, .slice a m c]) ∧ Hid (RowI w' (.slice a m c) s.v.C ∧ Below u.heap.size u w')) := fun u hu => (ao_vote (HR.out.b.on hu)).mono fun _ _ ⟨a, m, c, he, hh⟩ => ⟨a, m, c, he, hh.out.1, hh.out.2.2⟩
      have HB1 : Hid (∀ u, Below wr.heap.size wr u → Calls Try.prog 17 #[.pointer (some ⟨p, 0, none⟩)] u fun e w' => ∃ a m c, e = .returned (.slice a m c) ∧ Hid (Hid (∀ y, Below w'.heap.size w' y → (convert 42 9 (.slice a m c)).run Try.prog y = .ok (.string z) y) ∧ Below u.heap.size u w')) := fun u hu => (ao_bytes (HR.out.a.on hu)).mono fun _ _ ⟨a, m, c, he, hh⟩ => ⟨a, m, c, he, (fun y hy => by rw [hz]; exact run_conv_byt (hh.out.1.keep hy)), hh.out.2.2⟩
      have HB2 : Hid (∀ u, Below wr.heap.size wr u → Calls Try.prog 17 #[.pointer (some ⟨x0, 0, none⟩)] u fun e w' => ∃ a m c, e = .returned (.slice a m c) ∧ Hid (Hid (∀ y, Below w'.heap.size w' y → (convert 42 9 (.slice a m c)).run Try.prog y = .ok (.string z) y) ∧ Below u.heap.size u w')) := fun u hu => (ao_bytes (HR.out.b.on hu)).mono fun _ _ ⟨a, m, c, he, hh⟩ => ⟨a, m, c, he, (fun y hy => by rw [hz]; exact run_conv_byt (hh.out.1.keep hy)), hh.out.2.2⟩
      have HSC : Hid (∀ u v1 v2, RowI u v1 s.K → RowI u v2 s.K → Calls Try.prog 13 #[.agg #[.int .i64 s.ke, v1], .agg #[.int .i64 s.ke, v2]] u fun e w' => e = .returned (.bool true) ∧ Below u.heap.size u w') := fun u v1 v2 h1 h2 =>
        (refsame_any s.ke s.ke _ _ s.K s.K u.heap.size u h1.ints h2.ints (Nat.le_refl _) (by omega)).mono fun _ _ ⟨q1, q2⟩ => ⟨by simpa using q1, q2⟩
      have HSV : Hid (∀ u v1 v2, RowI u v1 s.v.C → RowI u v2 s.v.C → Calls Try.prog 20 #[.agg #[.int .i64 s.v.pr, .int .i64 s.v.pn, .int .i64 s.v.ar, .int .i64 s.v.an, .bool s.v.has, .int .i64 s.v.ce, v1], .agg #[.int .i64 s.v.pr, .int .i64 s.v.pn, .int .i64 s.v.ar, .int .i64 s.v.an, .bool s.v.has, .int .i64 s.v.ce, v2]] u fun e w' => e = .returned (.bool true) ∧ Below u.heap.size u w') := fun u v1 v2 h1 h2 =>
        rsamevote_r s.v v1 v2 u.heap.size u h1.ints h2.ints (Nat.le_refl _) (by omega)
      clear hz
      go_wp2_with fail
      refine wp_region_held_drew (S := (fun u => Below wr.heap.size wr u)) (by kernel_rfl) (Below.drew (Below.refl _ _)) (fun hHeld => ?_)
      refine held_call 0 133 rfl rfl (by kernel_rfl) (by rfl) (fun K hK => ?_)
      simp only [Go.wp_at_zero]
      go_simp
      refine (HT.out _).mono ?_
      rintro e u1 ⟨rfl, Hu1⟩
      have Bu1 := Lib.hid (Below.trans (Below.drew (Below.refl wr.heap.size wr)) Hu1)
      clear Hu1
      first | (with_reducible refine hK.out _ _ ?_ (fun hHeld => ?_)) | (go_wp2_with fail; refine hK.out _ _ ?_ (fun hHeld => ?_))
      · exact Bu1.out
      clear hK K
      try simp only [Act.put, List.setIfInBounds_toArray, List.set_cons_zero, List.set_cons_succ]
      first
        | (refine held_take 1 134 (v := ?_) rfl rfl (by kernel_rfl) (by kernel_rfl) (by kernel_rfl) (fun _ _ _ h => h) (by assumption) (by rfl) ?_ ?_; rotate_left; (focus (intro w hSw; (try dsimp only at hSw); go_simp <;> with_reducible rfl)))
        | refine held_pass 1 134 rfl rfl (by kernel_rfl) (by kernel_rfl) (by kernel_rfl) (fun _ _ _ h => h) (by assumption) (by rfl) ?_
      simp only [Act.put, List.setIfInBounds_toArray, List.set_cons_zero, List.set_cons_succ]
      first
        | (refine held_take 2 135 (v := ?_) rfl rfl (by kernel_rfl) (by kernel_rfl) (by kernel_rfl) (fun _ _ _ h => h) (by assumption) (by rfl) ?_ ?_; rotate_left; (focus (intro w hSw; (try dsimp only at hSw); go_simp <;> with_reducible rfl)))
        | refine held_pass 2 135 rfl rfl (by kernel_rfl) (by kernel_rfl) (by kernel_rfl) (fun _ _ _ h => h) (by assumption) (by rfl) ?_
      simp only [Act.put, List.setIfInBounds_toArray, List.set_cons_zero, List.set_cons_succ]
      first
        | (refine held_take 5 138 (v := ?_) rfl rfl (by kernel_rfl) (by kernel_rfl) (by kernel_rfl) (fun _ _ _ h => h) (by assumption) (by rfl) ?_ ?_; rotate_left; (focus (intro w hSw; (try dsimp only at hSw); go_simp <;> with_reducible rfl)))
        | refine held_pass 5 138 rfl rfl (by kernel_rfl) (by kernel_rfl) (by kernel_rfl) (fun _ _ _ h => h) (by assumption) (by rfl) ?_
      simp only [Act.put, List.setIfInBounds_toArray, List.set_cons_zero, List.set_cons_succ]
      refine held_call 3 136 rfl rfl (by kernel_rfl) (by rfl) (fun K hK => ?_)
      simp only [Go.wp_at_succ, Go.wp_at_zero]
      go_simp
      refine (HB1.out _ Bu1.out).mono ?_
      rintro e u2 ⟨a2, m2, c2, rfl, H2⟩
      have Bu2 := Lib.hid (Bu1.out.trans (H2.out.2.mono Bu1.out.size))
      have KX := H2.out.1
      first | (with_reducible refine hK.out _ _ ?_ (fun hHeld => ?_)) | (go_wp2_with fail; refine hK.out _ _ ?_ (fun hHeld => ?_))
      · exact Bu2.out
      clear hK K
      try simp only [Act.put, List.setIfInBounds_toArray, List.set_cons_zero, List.set_cons_succ]
      refine held_narrow (S' := (fun u => Below wr.heap.size wr u ∧ Below u2.heap.size u2 u)) (fun _ h => h.1) _ _ _ _ ?_
      have hHeldNu2 : (fun u => Below wr.heap.size wr u ∧ Below u2.heap.size u2 u) u2 := ⟨Bu2.out, Below.refl _ _⟩
      first
        | (refine held_take 4 137 (v := ?_) rfl rfl (by kernel_rfl) (by kernel_rfl) (by kernel_rfl) (fun _ _ _ h => h) (by assumption) (by rfl) ?_ ?_; rotate_left; (focus (intro w hSw; (have z3 := KX.out _ hSw.2); go_simp <;> with_reducible rfl)))
        | refine held_pass 4 137 rfl rfl (by kernel_rfl) (by kernel_rfl) (by kernel_rfl) (fun _ _ _ h => h) (by assumption) (by rfl) ?_
      simp only [Act.put, List.setIfInBounds_toArray, List.set_cons_zero, List.set_cons_succ]
      refine held_call 6 139 rfl rfl (by kernel_rfl) (by rfl) (fun K hK => ?_)
      simp only [Go.wp_at_succ, Go.wp_at_zero]
      go_simp
      refine (HB2.out _ Bu2.out).mono ?_
      rintro e u3 ⟨a3, m3, c3, rfl, H3⟩
      have Bu3 := Lib.hid (Bu2.out.trans (H3.out.2.mono Bu2.out.size))
      have Bu23 := Lib.hid H3.out.2
      have KX2 := H3.out.1
      first | (with_reducible refine hK.out _ _ ?_ (fun hHeld => ?_)) | (go_wp2_with fail; refine hK.out _ _ ?_ (fun hHeld => ?_))
      · exact ⟨Bu3.out, Bu23.out⟩
      clear hK K
      try simp only [Act.put, List.setIfInBounds_toArray, List.set_cons_zero, List.set_cons_succ]
      refine held_narrow (S' := (fun u => (Below wr.heap.size wr u ∧ Below u2.heap.size u2 u) ∧ Below u3.heap.size u3 u)) (fun _ h => h.1) _ _ _ _ ?_
      have hHeldNu3 : (fun u => (Below wr.heap.size wr u ∧ Below u2.heap.size u2 u) ∧ Below u3.heap.size u3 u) u3 := ⟨⟨Bu3.out, Bu23.out⟩, Below.refl _ _⟩
      first
        | (refine held_take 7 140 (v := ?_) rfl rfl (by kernel_rfl) (by kernel_rfl) (by kernel_rfl) (fun _ _ _ h => h) (by assumption) (by rfl) ?_ ?_; rotate_left; (focus (intro w hSw; (have z4 := KX2.out _ hSw.2); go_simp <;> with_reducible rfl)))
        | refine held_pass 7 140 rfl rfl (by kernel_rfl) (by kernel_rfl) (by kernel_rfl) (fun _ _ _ h => h) (by assumption) (by rfl) ?_
      simp only [Act.put, List.setIfInBounds_toArray, List.set_cons_zero, List.set_cons_succ]
      first
        | (refine held_take 8 141 (v := ?_) rfl rfl (by kernel_rfl) (by kernel_rfl) (by kernel_rfl) (fun _ _ _ h => h) (by assumption) (by rfl) ?_ ?_; rotate_left; (focus (intro w hSw; (have z4 := KX2.out _ hSw.2); go_simp <;> with_reducible rfl)))
        | refine held_pass 8 141 rfl rfl (by kernel_rfl) (by kernel_rfl) (by kernel_rfl) (fun _ _ _ h => h) (by assumption) (by rfl) ?_
      simp only [Act.put, List.setIfInBounds_toArray, List.set_cons_zero, List.set_cons_succ]
      first
        | (refine held_take 9 142 (v := ?_) rfl rfl (by kernel_rfl) (by kernel_rfl) (by kernel_rfl) (fun _ _ _ h => h) (by assumption) (by rfl) ?_ ?_; rotate_left; (focus (intro w hSw; (have z4 := KX2.out _ hSw.2); go_simp <;> with_reducible rfl)))
        | refine held_pass 9 142 rfl rfl (by kernel_rfl) (by kernel_rfl) (by kernel_rfl) (fun _ _ _ h => h) (by assumption) (by rfl) ?_
      simp only [Act.put, List.setIfInBounds_toArray, List.set_cons_zero, List.set_cons_succ]
      first
        | (refine held_take 10 143 (v := ?_) rfl rfl (by kernel_rfl) (by kernel_rfl) (by kernel_rfl) (fun _ _ _ h => h) (by assumption) (by rfl) ?_ ?_; rotate_left; (focus (intro w hSw; (have z4 := KX2.out _ hSw.2); go_simp <;> with_reducible rfl)))
        | refine held_pass 10 143 rfl rfl (by kernel_rfl) (by kernel_rfl) (by kernel_rfl) (fun _ _ _ h => h) (by assumption) (by rfl) ?_
      simp only [Act.put, List.setIfInBounds_toArray, List.set_cons_zero, List.set_cons_succ]
      first
        | (refine held_take 11 144 (v := ?_) rfl rfl (by kernel_rfl) (by kernel_rfl) (by kernel_rfl) (fun _ _ _ h => h) (by assumption) (by rfl) ?_ ?_; rotate_left; (focus (intro w hSw; (have z4 := KX2.out _ hSw.2); go_simp <;> with_reducible rfl)))
        | refine held_pass 11 144 rfl rfl (by kernel_rfl) (by kernel_rfl) (by kernel_rfl) (fun _ _ _ h => h) (by assumption) (by rfl) ?_
      simp only [Act.put, List.setIfInBounds_toArray, List.set_cons_zero, List.set_cons_succ]
      first
        | (refine held_take 13 146 (v := ?_) rfl rfl (by kernel_rfl) (by kernel_rfl) (by kernel_rfl) (fun _ _ _ h => h) (by assumption) (by rfl) ?_ ?_; rotate_left; (focus (intro w hSw; (have z4 := KX2.out _ hSw.2); go_simp <;> with_reducible rfl)))
        | refine held_pass 13 146 rfl rfl (by kernel_rfl) (by kernel_rfl) (by kernel_rfl) (fun _ _ _ h => h) (by assumption) (by rfl) ?_
      simp only [Act.put, List.setIfInBounds_toArray, List.set_cons_zero, List.set_cons_succ]
      refine held_call 12 145 rfl rfl (by kernel_rfl) (by rfl) (fun K hK => ?_)
      simp only [Go.wp_at_succ, Go.wp_at_zero]
      go_simp
      refine (HK1.out _ Bu3.out).mono ?_
      rintro e u4 ⟨a4, m4, c4, rfl, H4⟩
      have Bu34 := Lib.hid H4.out.2
      have Bu4 := Lib.hid (Bu3.out.trans (H4.out.2.mono Bu3.out.size))
      first | (with_reducible refine hK.out _ _ ?_ (fun hHeld => ?_)) | (go_wp2_with fail; refine hK.out _ _ ?_ (fun hHeld => ?_))
      · exact ⟨⟨Bu4.out, Bu23.out.trans (Bu34.out.mono Bu23.out.size)⟩, Bu34.out⟩
      clear hK K
      try simp only [Act.put, List.setIfInBounds_toArray, List.set_cons_zero, List.set_cons_succ]
      refine held_call 14 147 rfl rfl (by kernel_rfl) (by rfl) (fun K hK => ?_)
      simp only [Go.wp_at_succ, Go.wp_at_zero]
      go_simp
      refine (HK2.out _ Bu4.out).mono ?_
      rintro e u5 ⟨a5, m5, c5, rfl, H5⟩
      have Bu35 := Lib.hid (Bu34.out.trans (H5.out.2.mono Bu34.out.size))
      have Bu5 := Lib.hid (Bu4.out.trans (H5.out.2.mono Bu4.out.size))
      first | (with_reducible refine hK.out _ _ ?_ (fun hHeld => ?_)) | (go_wp2_with fail; refine hK.out _ _ ?_ (fun hHeld => ?_))
      · exact ⟨⟨Bu5.out, Bu23.out.trans (Bu35.out.mono Bu23.out.size)⟩, Bu35.out⟩
      clear hK K
      try simp only [Act.put, List.setIfInBounds_toArray, List.set_cons_zero, List.set_cons_succ]
      refine held_call 15 148 rfl rfl (by kernel_rfl) (by rfl) (fun K hK => ?_)
      simp only [Go.wp_at_succ, Go.wp_at_zero]
      go_simp
      refine (HSC.out _ _ _ (H4.out.1.on H5.out.2) H5.out.1).mono ?_
      rintro e u6 ⟨rfl, H6⟩
      have Bu36 := Lib.hid (Bu35.out.trans (H6.mono Bu35.out.size))
      have Bu6 := Lib.hid (Bu5.out.trans (H6.mono Bu5.out.size))
      clear H6
      first | (with_reducible refine hK.out _ _ ?_ (fun hHeld => ?_)) | (go_wp2_with fail; refine hK.out _ _ ?_ (fun hHeld => ?_))
      · exact ⟨⟨Bu6.out, Bu23.out.trans (Bu36.out.mono Bu23.out.size)⟩, Bu36.out⟩
      clear hK K
      try simp only [Act.put, List.setIfInBounds_toArray, List.set_cons_zero, List.set_cons_succ]
      first
        | (refine held_take 16 149 (v := ?_) rfl rfl (by kernel_rfl) (by kernel_rfl) (by kernel_rfl) (fun _ _ _ h => h) (by assumption) (by rfl) ?_ ?_; rotate_left; (focus (intro w hSw; (have z4 := KX2.out _ hSw.2); go_simp <;> with_reducible rfl)))
        | refine held_pass 16 149 rfl rfl (by kernel_rfl) (by kernel_rfl) (by kernel_rfl) (fun _ _ _ h => h) (by assumption) (by rfl) ?_
      simp only [Act.put, List.setIfInBounds_toArray, List.set_cons_zero, List.set_cons_succ]
      first
        | (refine held_take 17 150 (v := ?_) rfl rfl (by kernel_rfl) (by kernel_rfl) (by kernel_rfl) (fun _ _ _ h => h) (by assumption) (by rfl) ?_ ?_; rotate_left; (focus (intro w hSw; (have z4 := KX2.out _ hSw.2); go_simp <;> with_reducible rfl)))
        | refine held_pass 17 150 rfl rfl (by kernel_rfl) (by kernel_rfl) (by kernel_rfl) (fun _ _ _ h => h) (by assumption) (by rfl) ?_
      simp only [Act.put, List.setIfInBounds_toArray, List.set_cons_zero, List.set_cons_succ]
      first
        | (refine held_take 18 151 (v := ?_) rfl rfl (by kernel_rfl) (by kernel_rfl) (by kernel_rfl) (fun _ _ _ h => h) (by assumption) (by rfl) ?_ ?_; rotate_left; (focus (intro w hSw; (have z4 := KX2.out _ hSw.2); go_simp <;> with_reducible rfl)))
        | refine held_pass 18 151 rfl rfl (by kernel_rfl) (by kernel_rfl) (by kernel_rfl) (fun _ _ _ h => h) (by assumption) (by rfl) ?_
      simp only [Act.put, List.setIfInBounds_toArray, List.set_cons_zero, List.set_cons_succ]
      first
        | (refine held_take 20 153 (v := ?_) rfl rfl (by kernel_rfl) (by kernel_rfl) (by kernel_rfl) (fun _ _ _ h => h) (by assumption) (by rfl) ?_ ?_; rotate_left; (focus (intro w hSw; (have z4 := KX2.out _ hSw.2); go_simp <;> with_reducible rfl)))
        | refine held_pass 20 153 rfl rfl (by kernel_rfl) (by kernel_rfl) (by kernel_rfl) (fun _ _ _ h => h) (by assumption) (by rfl) ?_
      simp only [Act.put, List.setIfInBounds_toArray, List.set_cons_zero, List.set_cons_succ]
      refine held_call 19 152 rfl rfl (by kernel_rfl) (by rfl) (fun K hK => ?_)
      simp only [Go.wp_at_succ, Go.wp_at_zero]
      go_simp
      refine (HV1.out _ Bu6.out).mono ?_
      rintro e u7 ⟨a7, m7, c7, rfl, H7⟩
      have Bu37 := Lib.hid (Bu36.out.trans (H7.out.2.mono Bu36.out.size))
      have Bu7 := Lib.hid (Bu6.out.trans (H7.out.2.mono Bu6.out.size))
      first | (with_reducible refine hK.out _ _ ?_ (fun hHeld => ?_)) | (go_wp2_with fail; refine hK.out _ _ ?_ (fun hHeld => ?_))
      · exact ⟨⟨Bu7.out, Bu23.out.trans (Bu37.out.mono Bu23.out.size)⟩, Bu37.out⟩
      clear hK K
      try simp only [Act.put, List.setIfInBounds_toArray, List.set_cons_zero, List.set_cons_succ]
      refine held_call 21 154 rfl rfl (by kernel_rfl) (by rfl) (fun K hK => ?_)
      simp only [Go.wp_at_succ, Go.wp_at_zero]
      go_simp
      refine (HV2.out _ Bu7.out).mono ?_
      rintro e u8 ⟨a8, m8, c8, rfl, H8⟩
      have Bu38 := Lib.hid (Bu37.out.trans (H8.out.2.mono Bu37.out.size))
      have Bu8 := Lib.hid (Bu7.out.trans (H8.out.2.mono Bu7.out.size))
      first | (with_reducible refine hK.out _ _ ?_ (fun hHeld => ?_)) | (go_wp2_with fail; refine hK.out _ _ ?_ (fun hHeld => ?_))
      · exact ⟨⟨Bu8.out, Bu23.out.trans (Bu38.out.mono Bu23.out.size)⟩, Bu38.out⟩
      clear hK K
      try simp only [Act.put, List.setIfInBounds_toArray, List.set_cons_zero, List.set_cons_succ]
      refine held_call 22 155 rfl rfl (by kernel_rfl) (by rfl) (fun K hK => ?_)
      simp only [Go.wp_at_succ, Go.wp_at_zero]
      go_simp
      refine (HSV.out _ _ _ (H7.out.1.on H8.out.2) H8.out.1).mono ?_
      rintro e u9 ⟨rfl, H9⟩
      have Bu39 := Lib.hid (Bu38.out.trans (H9.mono Bu38.out.size))
      have Bu9 := Lib.hid (Bu8.out.trans (H9.mono Bu8.out.size))
      clear H9
      first | (with_reducible refine hK.out _ _ ?_ (fun hHeld => ?_)) | (go_wp2_with fail; refine hK.out _ _ ?_ (fun hHeld => ?_))
      · exact ⟨⟨Bu9.out, Bu23.out.trans (Bu39.out.mono Bu23.out.size)⟩, Bu39.out⟩
      clear hK K
      try simp only [Act.put, List.setIfInBounds_toArray, List.set_cons_zero, List.set_cons_succ]
      first
        | (refine held_take 23 156 (v := ?_) rfl rfl (by kernel_rfl) (by kernel_rfl) (by kernel_rfl) (fun _ _ _ h => h) (by assumption) (by rfl) ?_ ?_; rotate_left; (focus (intro w hSw; (have z4 := KX2.out _ hSw.2); go_simp <;> with_reducible rfl)))
        | refine held_pass 23 156 rfl rfl (by kernel_rfl) (by kernel_rfl) (by kernel_rfl) (fun _ _ _ h => h) (by assumption) (by rfl) ?_
      simp only [Act.put, List.setIfInBounds_toArray, List.set_cons_zero, List.set_cons_succ]
      first
        | (refine held_take 24 4 (v := ?_) rfl rfl (by kernel_rfl) (by kernel_rfl) (by kernel_rfl) (fun _ _ _ h => h) (by assumption) (by rfl) ?_ ?_; rotate_left; (focus (intro w hSw; (have z4 := KX2.out _ hSw.2); go_simp <;> with_reducible rfl)))
        | refine held_pass 24 4 rfl rfl (by kernel_rfl) (by kernel_rfl) (by kernel_rfl) (fun _ _ _ h => h) (by assumption) (by rfl) ?_
      simp only [Act.put, List.setIfInBounds_toArray, List.set_cons_zero, List.set_cons_succ]
      refine wpAnyH_done (by kernel_rfl) ?_ _
      go_wp2
      go_returns
      exact ⟨rfl, HR.out.a.bel.trans (Bu9.out.mono HR.out.a.size)⟩
    have i1 : (i : Int) < (q : Int) := by omega
    obtain ⟨ab, off, rfl, hab, hc⟩ := HCELLS.out (by intro e; have := HQL.out; rw [e] at this; simp at this; omega)
    have hc1 := (hc i (by have := HQL.out; omega)).keep HR.out.a.bel hab
    have hf1 := HFIT.out _ (List.getElem_mem (show i < l.length by have := HQL.out; omega))
    generalize l[i]'(by have := HQL.out; omega) = o at hc1 hf1
    obtain ⟨kd, ep, r, k, ec, vv, Lo, veto⟩ := o
    obtain ⟨⟨hf2, hf3⟩, hI⟩ := hf1
    dsimp only [AStepV.fits] at hf2 hf3 hI
    obtain ⟨oa, oc, rfl⟩ : ∃ a c, vv = .slice a Lo.length c := by obtain ⟨a, c, h, _⟩ := hI; exact ⟨a, c, h⟩
    obtain ⟨lo, hlo⟩ : ∃ x, x = Lo.length := ⟨_, rfl⟩
    rw [← hlo] at hI hc1
    obtain ⟨d0, d1, d2, d3, d4, d5, d6⟩ := hc1
    dsimp only at d0 d1 d2 d3 d4 d5 d6
    obtain ⟨y1, hy1⟩ : ∃ y, y = wr.alloc (.cells #[.int .i64 kd, .int .i64 ep, .int .i64 r, .int .i64 k, .int .i64 ec, .slice oa lo oc, .bool veto] 52) := ⟨_, rfl⟩
    have e1 : Below wr.heap.size wr y1 := by rw [hy1]; exact (Below.refl _ _).alloc (Nat.le_refl _) _
    have A1 := Lib.hid (HR.out.on e1)
    have o1 : AOpB y1 wr.heap.size ⟨kd, ep, r, k, ec, .slice oa lo oc, Lo, veto⟩ := by rw [hy1]; exact AOpB.fresh wr ⟨kd, ep, r, k, ec, .slice oa lo oc, Lo, veto⟩
    have O1 := Lib.hid o1
    have HY1 : Hid (y1 = wr.alloc (.cells #[.int .i64 kd, .int .i64 ep, .int .i64 r, .int .i64 k, .int .i64 ec, .slice oa lo oc, .bool veto] 52)) := hy1
    obtain ⟨g0, g1, g2, g3, g4, g5, g6⟩ := o1.cells
    rw [hy1] at g0 g1 g2 g3 g4 g5 g6
    dsimp only at g0 g1 g2 g3 g4 g5 g6
    have HLO := Lib.hid hlo
    clear e1 o1 hy1 hlo hc
    by_cases h8 : (8 : Int) < (lo : Int)
    · go_wp2_with fail
      rw [← HY1.out]
      refine (HT.out _).mono ?_
      rintro e w3 ⟨rfl, B3⟩
      have A4 := Lib.hid (A1.out.on B3)
      clear B3
      go_wp2
      go_returns
      exact ⟨rfl, A4.out.a.bel⟩
    have HF : Hid (Lo.length ≤ 8 ∧ Ints w n (.slice oa lo oc) Lo) := ⟨by have := HLO.out; omega, hI⟩
    clear hf2 hf3 hI
    by_cases hki : i = kk
    · skip
      have HB : Hid (Calls Try.prog 17 #[.pointer (some ⟨x0, 0, none⟩)] y1 fun e w' => ∃ a m c, e = .returned (.slice a m c) ∧ Hid (Byt w' w'.heap.size (.slice a m c) s.bytes ∧ AY n w p x0 s s w' ∧ AOpB w' wr.heap.size ⟨kd, ep, r, k, ec, .slice oa lo oc, Lo, veto⟩)) := (ao_bytes A1.out.b).mono fun _ _ ⟨a, m, c, he, hh⟩ => ⟨a, m, c, he, hh.out.1, A1.out.on hh.out.2.2, O1.out.on hh.out.2.2⟩
      have HL : Hid (∀ u a m c, AY n w p x0 s s u → AOpB u wr.heap.size ⟨kd, ep, r, k, ec, .slice oa lo oc, Lo, veto⟩ → Byt u u.heap.size (.slice a m c) s.bytes → Calls Try.prog 23 #[.int .i64 4, .slice a m c] u fun e w' => ∃ p2, e = .returned (.tuple #[.pointer (some ⟨p2, 0, none⟩), .int .i64 0]) ∧ Hid (AY n w p p2 s s w' ∧ AOpB w' wr.heap.size ⟨kd, ep, r, k, ec, .slice oa lo oc, Lo, veto⟩)) := fun u a m c hu ho hb =>
        (aload_in 4 (by decide) (by decide) hu.b.ok hn4 _ _ u hb (Nat.le_refl _)).mono fun _ w' ⟨p2, he, hp2, ha, hbe⟩ => ⟨p2, he, ⟨hu.a.on hbe, ⟨ha, Nat.le_trans hu.a.size hp2, Nat.le_trans hu.a.size hbe.size, hu.a.bel.trans (hbe.mono hu.a.size), hu.a.ok⟩, by have := hu.a.a.lt; omega⟩, ho.on hbe⟩
      have hik : ((i : Int) == (kk : Int)) = true := by simp [hki]
      clear hki
      go_wp2_with fail
      rw [← HY1.out]
      refine HB.out.mono ?_
      rintro e w2 ⟨a2, m2, c2, rfl, H2⟩
      clear g0 g1 g2 g3 g4 g5 g6
      go_wp2_with fail
      refine (HL.out _ _ _ _ H2.out.2.1 H2.out.2.2 H2.out.1).mono ?_
      rintro e wz ⟨x, rfl, HZ⟩
      have AZ := Lib.hid HZ.out.1
      have OZ := Lib.hid HZ.out.2
      clear HB HL hik
      by_cases hk0 : kd = 0
      · subst hk0
        obtain ⟨s', hs'⟩ : ∃ s', prepS s ep r k = s' := ⟨_, rfl⟩
        obtain ⟨err, herr⟩ : ∃ e, prepE s ep r k = e := ⟨_, rfl⟩
        have HP : Hid (∀ u, AY n w p x s s u → Calls Try.prog 10 #[.pointer (some ⟨p, 0, none⟩), .int .i64 ep, .agg #[.int .i64 r, .int .i64 k]] u fun e w' => ∃ a m c x0 x1 x2 x3 x5 bb, e = .returned (.tuple #[.agg #[.int .i64 x0, .int .i64 x1, .int .i64 x2, .int .i64 x3, .bool bb, .int .i64 x5, .slice a m c], .int .i64 err]) ∧ Hid (AY n w p x s' s w' ∧ KC u w')) := fun u hu => (ay_prep hu ep r k hs' rfl herr).mono fun _ _ ⟨a, m, c, he, hh⟩ => ⟨a, m, c, _, _, _, _, _, _, he, hh.out.2.1, hh.out.2.2⟩
        have HQ : Hid (∀ u, AY n w p x s' s u → Calls Try.prog 10 #[.pointer (some ⟨x, 0, none⟩), .int .i64 ep, .agg #[.int .i64 r, .int .i64 k]] u fun e w' => ∃ a m c x0 x1 x2 x3 x5 bb, e = .returned (.tuple #[.agg #[.int .i64 x0, .int .i64 x1, .int .i64 x2, .int .i64 x3, .bool bb, .int .i64 x5, .slice a m c], .int .i64 err]) ∧ Hid (AY n w p x s' s' w' ∧ KC u w')) := fun u hu => (ay_prep hu.symm ep r k hs' rfl herr).mono fun _ _ ⟨a, m, c, he, hh⟩ => ⟨a, m, c, _, _, _, _, _, _, he, hh.out.2.1.symm, hh.out.2.2⟩
        have hn4' : Hid (s'.n = 4) := by show _ = _; rw [← hs', prep_n]; exact hn4
        clear hs' herr
        obtain ⟨g0, g1, g2, g3, g4, g5, g6⟩ := OZ.out.cells
        dsimp only at g0 g1 g2 g3 g4 g5 g6
        go_wp2_with fail
        refine (HP.out _ AZ.out).mono ?_
        rintro e w2 ⟨a2, m2, c2, x0, x1, x2, x3, x5, bb, rfl, H2⟩
        clear g0 g1 g2 g3 g4 g5 g6
        have O2 := Lib.hid (H2.out.2.op OZ.out)
        obtain ⟨g0, g1, g2, g3, g4, g5, g6⟩ := O2.out.cells
        dsimp only at g0 g1 g2 g3 g4 g5 g6
        go_wp2_with fail
        refine (HQ.out _ H2.out.1).mono ?_
        rintro e w3 ⟨a3, m3, c3, z0, z1, z2, z3, z5, zb, rfl, H3⟩
        have A3 := Lib.hid H3.out.1
        clear g0 g1 g2 g3 g4 g5 g6
        go_wp2_with fail
        go_roundw
        case rel => exact ⟨i + 1, x, s', rfl, by omega, by go_num, A3.out, hn4'.out⟩
        case measure => simp [intOf]; omega
      · by_cases hk1 : kd = 1
        · subst hk1
          obtain ⟨s', hs'⟩ : ∃ s', accS s ec Lo r k veto = s' := ⟨_, rfl⟩
          obtain ⟨err, herr⟩ : ∃ e, accE s ec Lo r k veto = e := ⟨_, rfl⟩
          have HP : Hid (∀ u, AY n w p x s s u → Calls Try.prog 16 #[.pointer (some ⟨p, 0, none⟩), .agg #[.int .i64 ec, .slice oa lo oc], .agg #[.int .i64 r, .int .i64 k], .bool veto] u fun e w' => e = .returned (.int .i64 err) ∧ Hid (AY n w p x s' s w' ∧ KC u w')) := fun u hu => (ay_acc hu ec _ Lo n (HF.out.2.keep hu.a.bel) hu.a.size (by have := HF.out.1; omega) r k veto hs' herr).mono fun _ _ ⟨he, hh⟩ => ⟨he, hh.out.1, hh.out.2⟩
          have HQ : Hid (∀ u, AY n w p x s' s u → Calls Try.prog 16 #[.pointer (some ⟨x, 0, none⟩), .agg #[.int .i64 ec, .slice oa lo oc], .agg #[.int .i64 r, .int .i64 k], .bool veto] u fun e w' => e = .returned (.int .i64 err) ∧ Hid (AY n w p x s' s' w' ∧ KC u w')) := fun u hu => (ay_acc hu.symm ec _ Lo n (HF.out.2.keep hu.a.bel) hu.a.size (by have := HF.out.1; omega) r k veto hs' herr).mono fun _ _ ⟨he, hh⟩ => ⟨he, hh.out.1.symm, hh.out.2⟩
          have hn4' : Hid (s'.n = 4) := by show _ = _; rw [← hs', acc_n]; exact hn4
          clear hs' herr
          obtain ⟨g0, g1, g2, g3, g4, g5, g6⟩ := OZ.out.cells
          dsimp only at g0 g1 g2 g3 g4 g5 g6
          go_wp2_with fail
          clear g0 g1 g2 g3 g4 g5 g6
          refine wp_region_held_drew (S := (fun u => AOpB u wr.heap.size ⟨1, ep, r, k, ec, .slice oa lo oc, Lo, veto⟩)) (by kernel_rfl) (OZ.out.on (Below.drew (Below.refl _ _))) (fun hHeld => ?_)
          first
            | (refine held_take 0 114 (v := ?_) rfl rfl (by kernel_rfl) (by kernel_rfl) (by kernel_rfl) (fun _ _ _ h => h) (by assumption) (by rfl) ?_ ?_; rotate_left; (focus (intro w hSw; obtain ⟨hS0, hS1, hS2, hS3, hS4, hS5, hS6⟩ := AOpB.cells hSw; go_simp <;> with_reducible rfl)))
            | refine held_pass 0 114 rfl rfl (by kernel_rfl) (by kernel_rfl) (by kernel_rfl) (fun _ _ _ h => h) (by assumption) (by rfl) ?_
          simp only [Act.put, List.setIfInBounds_toArray, List.set_cons_zero, List.set_cons_succ]
          first
            | (refine held_take 1 115 (v := ?_) rfl rfl (by kernel_rfl) (by kernel_rfl) (by kernel_rfl) (fun _ _ _ h => h) (by assumption) (by rfl) ?_ ?_; rotate_left; (focus (intro w hSw; obtain ⟨hS0, hS1, hS2, hS3, hS4, hS5, hS6⟩ := AOpB.cells hSw; go_simp <;> with_reducible rfl)))
            | refine held_pass 1 115 rfl rfl (by kernel_rfl) (by kernel_rfl) (by kernel_rfl) (fun _ _ _ h => h) (by assumption) (by rfl) ?_
          simp only [Act.put, List.setIfInBounds_toArray, List.set_cons_zero, List.set_cons_succ]
          first
            | (refine held_take 2 116 (v := ?_) rfl rfl (by kernel_rfl) (by kernel_rfl) (by kernel_rfl) (fun _ _ _ h => h) (by assumption) (by rfl) ?_ ?_; rotate_left; (focus (intro w hSw; obtain ⟨hS0, hS1, hS2, hS3, hS4, hS5, hS6⟩ := AOpB.cells hSw; go_simp <;> with_reducible rfl)))
            | refine held_pass 2 116 rfl rfl (by kernel_rfl) (by kernel_rfl) (by kernel_rfl) (fun _ _ _ h => h) (by assumption) (by rfl) ?_
          simp only [Act.put, List.setIfInBounds_toArray, List.set_cons_zero, List.set_cons_succ]
          first
            | (refine held_take 3 117 (v := ?_) rfl rfl (by kernel_rfl) (by kernel_rfl) (by kernel_rfl) (fun _ _ _ h => h) (by assumption) (by rfl) ?_ ?_; rotate_left; (focus (intro w hSw; obtain ⟨hS0, hS1, hS2, hS3, hS4, hS5, hS6⟩ := AOpB.cells hSw; go_simp <;> with_reducible rfl)))
            | refine held_pass 3 117 rfl rfl (by kernel_rfl) (by kernel_rfl) (by kernel_rfl) (fun _ _ _ h => h) (by assumption) (by rfl) ?_
          simp only [Act.put, List.setIfInBounds_toArray, List.set_cons_zero, List.set_cons_succ]
          first
            | (refine held_take 4 118 (v := ?_) rfl rfl (by kernel_rfl) (by kernel_rfl) (by kernel_rfl) (fun _ _ _ h => h) (by assumption) (by rfl) ?_ ?_; rotate_left; (focus (intro w hSw; obtain ⟨hS0, hS1, hS2, hS3, hS4, hS5, hS6⟩ := AOpB.cells hSw; go_simp <;> with_reducible rfl)))
            | refine held_pass 4 118 rfl rfl (by kernel_rfl) (by kernel_rfl) (by kernel_rfl) (fun _ _ _ h => h) (by assumption) (by rfl) ?_
          simp only [Act.put, List.setIfInBounds_toArray, List.set_cons_zero, List.set_cons_succ]
          first
            | (refine held_take 5 119 (v := ?_) rfl rfl (by kernel_rfl) (by kernel_rfl) (by kernel_rfl) (fun _ _ _ h => h) (by assumption) (by rfl) ?_ ?_; rotate_left; (focus (intro w hSw; obtain ⟨hS0, hS1, hS2, hS3, hS4, hS5, hS6⟩ := AOpB.cells hSw; go_simp <;> with_reducible rfl)))
            | refine held_pass 5 119 rfl rfl (by kernel_rfl) (by kernel_rfl) (by kernel_rfl) (fun _ _ _ h => h) (by assumption) (by rfl) ?_
          simp only [Act.put, List.setIfInBounds_toArray, List.set_cons_zero, List.set_cons_succ]
          first
            | (refine held_take 6 120 (v := ?_) rfl rfl (by kernel_rfl) (by kernel_rfl) (by kernel_rfl) (fun _ _ _ h => h) (by assumption) (by rfl) ?_ ?_; rotate_left; (focus (intro w hSw; obtain ⟨hS0, hS1, hS2, hS3, hS4, hS5, hS6⟩ := AOpB.cells hSw; go_simp <;> with_reducible rfl)))
            | refine held_pass 6 120 rfl rfl (by kernel_rfl) (by kernel_rfl) (by kernel_rfl) (fun _ _ _ h => h) (by assumption) (by rfl) ?_
          simp only [Act.put, List.setIfInBounds_toArray, List.set_cons_zero, List.set_cons_succ]
          first
            | (refine held_take 8 122 (v := ?_) rfl rfl (by kernel_rfl) (by kernel_rfl) (by kernel_rfl) (fun _ _ _ h => h) (by assumption) (by rfl) ?_ ?_; rotate_left; (focus (intro w hSw; obtain ⟨hS0, hS1, hS2, hS3, hS4, hS5, hS6⟩ := AOpB.cells hSw; go_simp <;> with_reducible rfl)))
            | refine held_pass 8 122 rfl rfl (by kernel_rfl) (by kernel_rfl) (by kernel_rfl) (fun _ _ _ h => h) (by assumption) (by rfl) ?_
          simp only [Act.put, List.setIfInBounds_toArray, List.set_cons_zero, List.set_cons_succ]
          first
            | (refine held_take 9 123 (v := ?_) rfl rfl (by kernel_rfl) (by kernel_rfl) (by kernel_rfl) (fun _ _ _ h => h) (by assumption) (by rfl) ?_ ?_; rotate_left; (focus (intro w hSw; obtain ⟨hS0, hS1, hS2, hS3, hS4, hS5, hS6⟩ := AOpB.cells hSw; go_simp <;> with_reducible rfl)))
            | refine held_pass 9 123 rfl rfl (by kernel_rfl) (by kernel_rfl) (by kernel_rfl) (fun _ _ _ h => h) (by assumption) (by rfl) ?_
          simp only [Act.put, List.setIfInBounds_toArray, List.set_cons_zero, List.set_cons_succ]
          first
            | (refine held_take 10 124 (v := ?_) rfl rfl (by kernel_rfl) (by kernel_rfl) (by kernel_rfl) (fun _ _ _ h => h) (by assumption) (by rfl) ?_ ?_; rotate_left; (focus (intro w hSw; obtain ⟨hS0, hS1, hS2, hS3, hS4, hS5, hS6⟩ := AOpB.cells hSw; go_simp <;> with_reducible rfl)))
            | refine held_pass 10 124 rfl rfl (by kernel_rfl) (by kernel_rfl) (by kernel_rfl) (fun _ _ _ h => h) (by assumption) (by rfl) ?_
          simp only [Act.put, List.setIfInBounds_toArray, List.set_cons_zero, List.set_cons_succ]
          first
            | (refine held_take 11 125 (v := ?_) rfl rfl (by kernel_rfl) (by kernel_rfl) (by kernel_rfl) (fun _ _ _ h => h) (by assumption) (by rfl) ?_ ?_; rotate_left; (focus (intro w hSw; obtain ⟨hS0, hS1, hS2, hS3, hS4, hS5, hS6⟩ := AOpB.cells hSw; go_simp <;> with_reducible rfl)))
            | refine held_pass 11 125 rfl rfl (by kernel_rfl) (by kernel_rfl) (by kernel_rfl) (fun _ _ _ h => h) (by assumption) (by rfl) ?_
          simp only [Act.put, List.setIfInBounds_toArray, List.set_cons_zero, List.set_cons_succ]
          first
            | (refine held_take 12 126 (v := ?_) rfl rfl (by kernel_rfl) (by kernel_rfl) (by kernel_rfl) (fun _ _ _ h => h) (by assumption) (by rfl) ?_ ?_; rotate_left; (focus (intro w hSw; obtain ⟨hS0, hS1, hS2, hS3, hS4, hS5, hS6⟩ := AOpB.cells hSw; go_simp <;> with_reducible rfl)))
            | refine held_pass 12 126 rfl rfl (by kernel_rfl) (by kernel_rfl) (by kernel_rfl) (fun _ _ _ h => h) (by assumption) (by rfl) ?_
          simp only [Act.put, List.setIfInBounds_toArray, List.set_cons_zero, List.set_cons_succ]
          first
            | (refine held_take 13 127 (v := ?_) rfl rfl (by kernel_rfl) (by kernel_rfl) (by kernel_rfl) (fun _ _ _ h => h) (by assumption) (by rfl) ?_ ?_; rotate_left; (focus (intro w hSw; obtain ⟨hS0, hS1, hS2, hS3, hS4, hS5, hS6⟩ := AOpB.cells hSw; go_simp <;> with_reducible rfl)))
            | refine held_pass 13 127 rfl rfl (by kernel_rfl) (by kernel_rfl) (by kernel_rfl) (fun _ _ _ h => h) (by assumption) (by rfl) ?_
          simp only [Act.put, List.setIfInBounds_toArray, List.set_cons_zero, List.set_cons_succ]
          first
            | (refine held_take 14 128 (v := ?_) rfl rfl (by kernel_rfl) (by kernel_rfl) (by kernel_rfl) (fun _ _ _ h => h) (by assumption) (by rfl) ?_ ?_; rotate_left; (focus (intro w hSw; obtain ⟨hS0, hS1, hS2, hS3, hS4, hS5, hS6⟩ := AOpB.cells hSw; go_simp <;> with_reducible rfl)))
            | refine held_pass 14 128 rfl rfl (by kernel_rfl) (by kernel_rfl) (by kernel_rfl) (fun _ _ _ h => h) (by assumption) (by rfl) ?_
          simp only [Act.put, List.setIfInBounds_toArray, List.set_cons_zero, List.set_cons_succ]
          refine held_call 7 121 rfl rfl (by kernel_rfl) (by rfl) (fun K hK => ?_)
          simp only [Go.wp_at_succ, Go.wp_at_zero]
          go_simp
          refine (HP.out _ (AZ.out.on (Below.drew (Below.refl _ _)))).mono ?_
          rintro e w2 ⟨rfl, Hw2⟩
          have A2 := Lib.hid Hw2.out.1
          have O2 := Lib.hid (Hw2.out.2.op (OZ.out.on (Below.drew (Below.refl _ _))))
          first | (with_reducible refine hK.out _ _ ?_ (fun hHeld => ?_)) | (go_wp2_with fail; refine hK.out _ _ ?_ (fun hHeld => ?_))
          · exact O2.out
          clear hK K
          try simp only [Act.put, List.setIfInBounds_toArray, List.set_cons_zero, List.set_cons_succ]
          refine held_call 15 129 rfl rfl (by kernel_rfl) (by rfl) (fun K hK => ?_)
          simp only [Go.wp_at_succ, Go.wp_at_zero]
          go_simp
          refine (HQ.out _ A2.out).mono ?_
          rintro e w3 ⟨rfl, Hw3⟩
          have A3 := Lib.hid Hw3.out.1
          have O3 := Lib.hid (Hw3.out.2.op (O2.out))
          first | (with_reducible refine hK.out _ _ ?_ (fun hHeld => ?_)) | (go_wp2_with fail; refine hK.out _ _ ?_ (fun hHeld => ?_))
          · exact O3.out
          clear hK K
          try simp only [Act.put, List.setIfInBounds_toArray, List.set_cons_zero, List.set_cons_succ]
          first
            | (refine held_take 16 14 (v := ?_) rfl rfl (by kernel_rfl) (by kernel_rfl) (by kernel_rfl) (fun _ _ _ h => h) (by assumption) (by rfl) ?_ ?_; rotate_left; (focus (intro w hSw; obtain ⟨hS0, hS1, hS2, hS3, hS4, hS5, hS6⟩ := AOpB.cells hSw; go_simp <;> with_reducible rfl)))
            | refine held_pass 16 14 rfl rfl (by kernel_rfl) (by kernel_rfl) (by kernel_rfl) (fun _ _ _ h => h) (by assumption) (by rfl) ?_
          simp only [Act.put, List.setIfInBounds_toArray, List.set_cons_zero, List.set_cons_succ]
          first
            | (refine held_take 17 15 (v := ?_) rfl rfl (by kernel_rfl) (by kernel_rfl) (by kernel_rfl) (fun _ _ _ h => h) (by assumption) (by rfl) ?_ ?_; rotate_left; (focus (intro w hSw; obtain ⟨hS0, hS1, hS2, hS3, hS4, hS5, hS6⟩ := AOpB.cells hSw; go_simp <;> with_reducible rfl)))
            | refine held_pass 17 15 rfl rfl (by kernel_rfl) (by kernel_rfl) (by kernel_rfl) (fun _ _ _ h => h) (by assumption) (by rfl) ?_
          simp only [Act.put, List.setIfInBounds_toArray, List.set_cons_zero, List.set_cons_succ]
          refine wpAnyH_done (by kernel_rfl) ?_ _
          clear HP HQ
          go_wp2_with fail
          go_roundw
          case rel => exact ⟨i + 1, x, s', rfl, by omega, by go_num, A3.out, hn4'.out⟩
          case measure => simp [intOf]; omega
        · have hb0 : (kd == 0) = false := beq_eq_false_iff_ne.2 hk0
          have hb1 : (kd == 1) = false := beq_eq_false_iff_ne.2 hk1
          clear hk0 hk1
          obtain ⟨s', hs'⟩ : ∃ s', lrnS s ec Lo = s' := ⟨_, rfl⟩
          obtain ⟨err, herr⟩ : ∃ e, lrnE s ec Lo = e := ⟨_, rfl⟩
          have HP : Hid (∀ u, AY n w p x s s u → Calls Try.prog 11 #[.pointer (some ⟨p, 0, none⟩), .agg #[.int .i64 ec, .slice oa lo oc]] u fun e w' => e = .returned (.int .i64 err) ∧ Hid (AY n w p x s' s w' ∧ KC u w')) := fun u hu => (ay_lrn hu ec _ Lo n (HF.out.2.keep hu.a.bel) hu.a.size (by have := HF.out.1; omega) hs' herr).mono fun _ _ ⟨he, hh⟩ => ⟨he, hh.out.1, hh.out.2⟩
          have HQ : Hid (∀ u, AY n w p x s' s u → Calls Try.prog 11 #[.pointer (some ⟨x, 0, none⟩), .agg #[.int .i64 ec, .slice oa lo oc]] u fun e w' => e = .returned (.int .i64 err) ∧ Hid (AY n w p x s' s' w' ∧ KC u w')) := fun u hu => (ay_lrn hu.symm ec _ Lo n (HF.out.2.keep hu.a.bel) hu.a.size (by have := HF.out.1; omega) hs' herr).mono fun _ _ ⟨he, hh⟩ => ⟨he, hh.out.1.symm, hh.out.2⟩
          have hn4' : Hid (s'.n = 4) := by show _ = _; rw [← hs', lrn_n]; exact hn4
          clear hs' herr
          obtain ⟨g0, g1, g2, g3, g4, g5, g6⟩ := OZ.out.cells
          dsimp only at g0 g1 g2 g3 g4 g5 g6
          go_wp2_with fail
          clear g0 g1 g2 g3 g4 g5 g6
          refine wp_region_held_drew (S := (fun u => AOpB u wr.heap.size ⟨kd, ep, r, k, ec, .slice oa lo oc, Lo, veto⟩)) (by kernel_rfl) (OZ.out.on (Below.drew (Below.refl _ _))) (fun hHeld => ?_)
          first
            | (refine held_take 0 84 (v := ?_) rfl rfl (by kernel_rfl) (by kernel_rfl) (by kernel_rfl) (fun _ _ _ h => h) (by assumption) (by rfl) ?_ ?_; rotate_left; (focus (intro w hSw; obtain ⟨hS0, hS1, hS2, hS3, hS4, hS5, hS6⟩ := AOpB.cells hSw; go_simp <;> with_reducible rfl)))
            | refine held_pass 0 84 rfl rfl (by kernel_rfl) (by kernel_rfl) (by kernel_rfl) (fun _ _ _ h => h) (by assumption) (by rfl) ?_
          simp only [Act.put, List.setIfInBounds_toArray, List.set_cons_zero, List.set_cons_succ]
          first
            | (refine held_take 1 85 (v := ?_) rfl rfl (by kernel_rfl) (by kernel_rfl) (by kernel_rfl) (fun _ _ _ h => h) (by assumption) (by rfl) ?_ ?_; rotate_left; (focus (intro w hSw; obtain ⟨hS0, hS1, hS2, hS3, hS4, hS5, hS6⟩ := AOpB.cells hSw; go_simp <;> with_reducible rfl)))
            | refine held_pass 1 85 rfl rfl (by kernel_rfl) (by kernel_rfl) (by kernel_rfl) (fun _ _ _ h => h) (by assumption) (by rfl) ?_
          simp only [Act.put, List.setIfInBounds_toArray, List.set_cons_zero, List.set_cons_succ]
          first
            | (refine held_take 2 86 (v := ?_) rfl rfl (by kernel_rfl) (by kernel_rfl) (by kernel_rfl) (fun _ _ _ h => h) (by assumption) (by rfl) ?_ ?_; rotate_left; (focus (intro w hSw; obtain ⟨hS0, hS1, hS2, hS3, hS4, hS5, hS6⟩ := AOpB.cells hSw; go_simp <;> with_reducible rfl)))
            | refine held_pass 2 86 rfl rfl (by kernel_rfl) (by kernel_rfl) (by kernel_rfl) (fun _ _ _ h => h) (by assumption) (by rfl) ?_
          simp only [Act.put, List.setIfInBounds_toArray, List.set_cons_zero, List.set_cons_succ]
          first
            | (refine held_take 4 88 (v := ?_) rfl rfl (by kernel_rfl) (by kernel_rfl) (by kernel_rfl) (fun _ _ _ h => h) (by assumption) (by rfl) ?_ ?_; rotate_left; (focus (intro w hSw; obtain ⟨hS0, hS1, hS2, hS3, hS4, hS5, hS6⟩ := AOpB.cells hSw; go_simp <;> with_reducible rfl)))
            | refine held_pass 4 88 rfl rfl (by kernel_rfl) (by kernel_rfl) (by kernel_rfl) (fun _ _ _ h => h) (by assumption) (by rfl) ?_
          simp only [Act.put, List.setIfInBounds_toArray, List.set_cons_zero, List.set_cons_succ]
          first
            | (refine held_take 5 89 (v := ?_) rfl rfl (by kernel_rfl) (by kernel_rfl) (by kernel_rfl) (fun _ _ _ h => h) (by assumption) (by rfl) ?_ ?_; rotate_left; (focus (intro w hSw; obtain ⟨hS0, hS1, hS2, hS3, hS4, hS5, hS6⟩ := AOpB.cells hSw; go_simp <;> with_reducible rfl)))
            | refine held_pass 5 89 rfl rfl (by kernel_rfl) (by kernel_rfl) (by kernel_rfl) (fun _ _ _ h => h) (by assumption) (by rfl) ?_
          simp only [Act.put, List.setIfInBounds_toArray, List.set_cons_zero, List.set_cons_succ]
          first
            | (refine held_take 6 90 (v := ?_) rfl rfl (by kernel_rfl) (by kernel_rfl) (by kernel_rfl) (fun _ _ _ h => h) (by assumption) (by rfl) ?_ ?_; rotate_left; (focus (intro w hSw; obtain ⟨hS0, hS1, hS2, hS3, hS4, hS5, hS6⟩ := AOpB.cells hSw; go_simp <;> with_reducible rfl)))
            | refine held_pass 6 90 rfl rfl (by kernel_rfl) (by kernel_rfl) (by kernel_rfl) (fun _ _ _ h => h) (by assumption) (by rfl) ?_
          simp only [Act.put, List.setIfInBounds_toArray, List.set_cons_zero, List.set_cons_succ]
          refine held_call 3 87 rfl rfl (by kernel_rfl) (by rfl) (fun K hK => ?_)
          simp only [Go.wp_at_succ, Go.wp_at_zero]
          go_simp
          refine (HP.out _ (AZ.out.on (Below.drew (Below.refl _ _)))).mono ?_
          rintro e w2 ⟨rfl, Hw2⟩
          have A2 := Lib.hid Hw2.out.1
          have O2 := Lib.hid (Hw2.out.2.op (OZ.out.on (Below.drew (Below.refl _ _))))
          first | (with_reducible refine hK.out _ _ ?_ (fun hHeld => ?_)) | (go_wp2_with fail; refine hK.out _ _ ?_ (fun hHeld => ?_))
          · exact O2.out
          clear hK K
          try simp only [Act.put, List.setIfInBounds_toArray, List.set_cons_zero, List.set_cons_succ]
          refine held_call 7 91 rfl rfl (by kernel_rfl) (by rfl) (fun K hK => ?_)
          simp only [Go.wp_at_succ, Go.wp_at_zero]
          go_simp
          refine (HQ.out _ A2.out).mono ?_
          rintro e w3 ⟨rfl, Hw3⟩
          have A3 := Lib.hid Hw3.out.1
          have O3 := Lib.hid (Hw3.out.2.op (O2.out))
          first | (with_reducible refine hK.out _ _ ?_ (fun hHeld => ?_)) | (go_wp2_with fail; refine hK.out _ _ ?_ (fun hHeld => ?_))
          · exact O3.out
          clear hK K
          try simp only [Act.put, List.setIfInBounds_toArray, List.set_cons_zero, List.set_cons_succ]
          first
            | (refine held_take 8 14 (v := ?_) rfl rfl (by kernel_rfl) (by kernel_rfl) (by kernel_rfl) (fun _ _ _ h => h) (by assumption) (by rfl) ?_ ?_; rotate_left; (focus (intro w hSw; obtain ⟨hS0, hS1, hS2, hS3, hS4, hS5, hS6⟩ := AOpB.cells hSw; go_simp <;> with_reducible rfl)))
            | refine held_pass 8 14 rfl rfl (by kernel_rfl) (by kernel_rfl) (by kernel_rfl) (fun _ _ _ h => h) (by assumption) (by rfl) ?_
          simp only [Act.put, List.setIfInBounds_toArray, List.set_cons_zero, List.set_cons_succ]
          first
            | (refine held_take 9 15 (v := ?_) rfl rfl (by kernel_rfl) (by kernel_rfl) (by kernel_rfl) (fun _ _ _ h => h) (by assumption) (by rfl) ?_ ?_; rotate_left; (focus (intro w hSw; obtain ⟨hS0, hS1, hS2, hS3, hS4, hS5, hS6⟩ := AOpB.cells hSw; go_simp <;> with_reducible rfl)))
            | refine held_pass 9 15 rfl rfl (by kernel_rfl) (by kernel_rfl) (by kernel_rfl) (fun _ _ _ h => h) (by assumption) (by rfl) ?_
          simp only [Act.put, List.setIfInBounds_toArray, List.set_cons_zero, List.set_cons_succ]
          refine wpAnyH_done (by kernel_rfl) ?_ _
          clear HP HQ
          go_wp2_with fail
          go_roundw
          case rel => exact ⟨i + 1, x, s', rfl, by omega, by go_num, A3.out, hn4'.out⟩
          case measure => simp [intOf]; omega
    · have hik : ((i : Int) == (kk : Int)) = false := by simp; omega
      have AZ : Hid (AY n w p x0 s s (wr.alloc (.cells #[.int .i64 kd, .int .i64 ep, .int .i64 r, .int .i64 k, .int .i64 ec, .slice oa lo oc, .bool veto] 52))) := by rw [← HY1.out]; exact A1
      have OZ : Hid (AOpB (wr.alloc (.cells #[.int .i64 kd, .int .i64 ep, .int .i64 r, .int .i64 k, .int .i64 ec, .slice oa lo oc, .bool veto] 52)) wr.heap.size ⟨kd, ep, r, k, ec, .slice oa lo oc, Lo, veto⟩) := by rw [← HY1.out]; exact O1
      clear hki g0 g1 g2 g3 g4 g5 g6
      obtain ⟨x, hx⟩ : ∃ x, x = x0 := ⟨_, rfl⟩
      subst hx
      by_cases hk0 : kd = 0
      · subst hk0
        obtain ⟨s', hs'⟩ : ∃ s', prepS s ep r k = s' := ⟨_, rfl⟩
        obtain ⟨err, herr⟩ : ∃ e, prepE s ep r k = e := ⟨_, rfl⟩
        have HP : Hid (∀ u, AY n w p x s s u → Calls Try.prog 10 #[.pointer (some ⟨p, 0, none⟩), .int .i64 ep, .agg #[.int .i64 r, .int .i64 k]] u fun e w' => ∃ a m c x0 x1 x2 x3 x5 bb, e = .returned (.tuple #[.agg #[.int .i64 x0, .int .i64 x1, .int .i64 x2, .int .i64 x3, .bool bb, .int .i64 x5, .slice a m c], .int .i64 err]) ∧ Hid (AY n w p x s' s w' ∧ KC u w')) := fun u hu => (ay_prep hu ep r k hs' rfl herr).mono fun _ _ ⟨a, m, c, he, hh⟩ => ⟨a, m, c, _, _, _, _, _, _, he, hh.out.2.1, hh.out.2.2⟩
        have HQ : Hid (∀ u, AY n w p x s' s u → Calls Try.prog 10 #[.pointer (some ⟨x, 0, none⟩), .int .i64 ep, .agg #[.int .i64 r, .int .i64 k]] u fun e w' => ∃ a m c x0 x1 x2 x3 x5 bb, e = .returned (.tuple #[.agg #[.int .i64 x0, .int .i64 x1, .int .i64 x2, .int .i64 x3, .bool bb, .int .i64 x5, .slice a m c], .int .i64 err]) ∧ Hid (AY n w p x s' s' w' ∧ KC u w')) := fun u hu => (ay_prep hu.symm ep r k hs' rfl herr).mono fun _ _ ⟨a, m, c, he, hh⟩ => ⟨a, m, c, _, _, _, _, _, _, he, hh.out.2.1.symm, hh.out.2.2⟩
        have hn4' : Hid (s'.n = 4) := by show _ = _; rw [← hs', prep_n]; exact hn4
        clear hs' herr
        obtain ⟨g0, g1, g2, g3, g4, g5, g6⟩ := OZ.out.cells
        dsimp only at g0 g1 g2 g3 g4 g5 g6
        go_wp2_with fail
        refine (HP.out _ AZ.out).mono ?_
        rintro e w2 ⟨a2, m2, c2, x0, x1, x2, x3, x5, bb, rfl, H2⟩
        clear g0 g1 g2 g3 g4 g5 g6
        have O2 := Lib.hid (H2.out.2.op OZ.out)
        obtain ⟨g0, g1, g2, g3, g4, g5, g6⟩ := O2.out.cells
        dsimp only at g0 g1 g2 g3 g4 g5 g6
        go_wp2_with fail
        refine (HQ.out _ H2.out.1).mono ?_
        rintro e w3 ⟨a3, m3, c3, z0, z1, z2, z3, z5, zb, rfl, H3⟩
        have A3 := Lib.hid H3.out.1
        clear g0 g1 g2 g3 g4 g5 g6
        go_wp2_with fail
        go_roundw
        case rel => exact ⟨i + 1, x, s', rfl, by omega, by go_num, A3.out, hn4'.out⟩
        case measure => simp [intOf]; omega
      · by_cases hk1 : kd = 1
        · subst hk1
          obtain ⟨s', hs'⟩ : ∃ s', accS s ec Lo r k veto = s' := ⟨_, rfl⟩
          obtain ⟨err, herr⟩ : ∃ e, accE s ec Lo r k veto = e := ⟨_, rfl⟩
          have HP : Hid (∀ u, AY n w p x s s u → Calls Try.prog 16 #[.pointer (some ⟨p, 0, none⟩), .agg #[.int .i64 ec, .slice oa lo oc], .agg #[.int .i64 r, .int .i64 k], .bool veto] u fun e w' => e = .returned (.int .i64 err) ∧ Hid (AY n w p x s' s w' ∧ KC u w')) := fun u hu => (ay_acc hu ec _ Lo n (HF.out.2.keep hu.a.bel) hu.a.size (by have := HF.out.1; omega) r k veto hs' herr).mono fun _ _ ⟨he, hh⟩ => ⟨he, hh.out.1, hh.out.2⟩
          have HQ : Hid (∀ u, AY n w p x s' s u → Calls Try.prog 16 #[.pointer (some ⟨x, 0, none⟩), .agg #[.int .i64 ec, .slice oa lo oc], .agg #[.int .i64 r, .int .i64 k], .bool veto] u fun e w' => e = .returned (.int .i64 err) ∧ Hid (AY n w p x s' s' w' ∧ KC u w')) := fun u hu => (ay_acc hu.symm ec _ Lo n (HF.out.2.keep hu.a.bel) hu.a.size (by have := HF.out.1; omega) r k veto hs' herr).mono fun _ _ ⟨he, hh⟩ => ⟨he, hh.out.1.symm, hh.out.2⟩
          have hn4' : Hid (s'.n = 4) := by show _ = _; rw [← hs', acc_n]; exact hn4
          clear hs' herr
          obtain ⟨g0, g1, g2, g3, g4, g5, g6⟩ := OZ.out.cells
          dsimp only at g0 g1 g2 g3 g4 g5 g6
          go_wp2_with fail
          clear g0 g1 g2 g3 g4 g5 g6
          refine wp_region_held_drew (S := (fun u => AOpB u wr.heap.size ⟨1, ep, r, k, ec, .slice oa lo oc, Lo, veto⟩)) (by kernel_rfl) (OZ.out.on (Below.drew (Below.refl _ _))) (fun hHeld => ?_)
          first
            | (refine held_take 0 114 (v := ?_) rfl rfl (by kernel_rfl) (by kernel_rfl) (by kernel_rfl) (fun _ _ _ h => h) (by assumption) (by rfl) ?_ ?_; rotate_left; (focus (intro w hSw; obtain ⟨hS0, hS1, hS2, hS3, hS4, hS5, hS6⟩ := AOpB.cells hSw; go_simp <;> with_reducible rfl)))
            | refine held_pass 0 114 rfl rfl (by kernel_rfl) (by kernel_rfl) (by kernel_rfl) (fun _ _ _ h => h) (by assumption) (by rfl) ?_
          simp only [Act.put, List.setIfInBounds_toArray, List.set_cons_zero, List.set_cons_succ]
          first
            | (refine held_take 1 115 (v := ?_) rfl rfl (by kernel_rfl) (by kernel_rfl) (by kernel_rfl) (fun _ _ _ h => h) (by assumption) (by rfl) ?_ ?_; rotate_left; (focus (intro w hSw; obtain ⟨hS0, hS1, hS2, hS3, hS4, hS5, hS6⟩ := AOpB.cells hSw; go_simp <;> with_reducible rfl)))
            | refine held_pass 1 115 rfl rfl (by kernel_rfl) (by kernel_rfl) (by kernel_rfl) (fun _ _ _ h => h) (by assumption) (by rfl) ?_
          simp only [Act.put, List.setIfInBounds_toArray, List.set_cons_zero, List.set_cons_succ]
          first
            | (refine held_take 2 116 (v := ?_) rfl rfl (by kernel_rfl) (by kernel_rfl) (by kernel_rfl) (fun _ _ _ h => h) (by assumption) (by rfl) ?_ ?_; rotate_left; (focus (intro w hSw; obtain ⟨hS0, hS1, hS2, hS3, hS4, hS5, hS6⟩ := AOpB.cells hSw; go_simp <;> with_reducible rfl)))
            | refine held_pass 2 116 rfl rfl (by kernel_rfl) (by kernel_rfl) (by kernel_rfl) (fun _ _ _ h => h) (by assumption) (by rfl) ?_
          simp only [Act.put, List.setIfInBounds_toArray, List.set_cons_zero, List.set_cons_succ]
          first
            | (refine held_take 3 117 (v := ?_) rfl rfl (by kernel_rfl) (by kernel_rfl) (by kernel_rfl) (fun _ _ _ h => h) (by assumption) (by rfl) ?_ ?_; rotate_left; (focus (intro w hSw; obtain ⟨hS0, hS1, hS2, hS3, hS4, hS5, hS6⟩ := AOpB.cells hSw; go_simp <;> with_reducible rfl)))
            | refine held_pass 3 117 rfl rfl (by kernel_rfl) (by kernel_rfl) (by kernel_rfl) (fun _ _ _ h => h) (by assumption) (by rfl) ?_
          simp only [Act.put, List.setIfInBounds_toArray, List.set_cons_zero, List.set_cons_succ]
          first
            | (refine held_take 4 118 (v := ?_) rfl rfl (by kernel_rfl) (by kernel_rfl) (by kernel_rfl) (fun _ _ _ h => h) (by assumption) (by rfl) ?_ ?_; rotate_left; (focus (intro w hSw; obtain ⟨hS0, hS1, hS2, hS3, hS4, hS5, hS6⟩ := AOpB.cells hSw; go_simp <;> with_reducible rfl)))
            | refine held_pass 4 118 rfl rfl (by kernel_rfl) (by kernel_rfl) (by kernel_rfl) (fun _ _ _ h => h) (by assumption) (by rfl) ?_
          simp only [Act.put, List.setIfInBounds_toArray, List.set_cons_zero, List.set_cons_succ]
          first
            | (refine held_take 5 119 (v := ?_) rfl rfl (by kernel_rfl) (by kernel_rfl) (by kernel_rfl) (fun _ _ _ h => h) (by assumption) (by rfl) ?_ ?_; rotate_left; (focus (intro w hSw; obtain ⟨hS0, hS1, hS2, hS3, hS4, hS5, hS6⟩ := AOpB.cells hSw; go_simp <;> with_reducible rfl)))
            | refine held_pass 5 119 rfl rfl (by kernel_rfl) (by kernel_rfl) (by kernel_rfl) (fun _ _ _ h => h) (by assumption) (by rfl) ?_
          simp only [Act.put, List.setIfInBounds_toArray, List.set_cons_zero, List.set_cons_succ]
          first
            | (refine held_take 6 120 (v := ?_) rfl rfl (by kernel_rfl) (by kernel_rfl) (by kernel_rfl) (fun _ _ _ h => h) (by assumption) (by rfl) ?_ ?_; rotate_left; (focus (intro w hSw; obtain ⟨hS0, hS1, hS2, hS3, hS4, hS5, hS6⟩ := AOpB.cells hSw; go_simp <;> with_reducible rfl)))
            | refine held_pass 6 120 rfl rfl (by kernel_rfl) (by kernel_rfl) (by kernel_rfl) (fun _ _ _ h => h) (by assumption) (by rfl) ?_
          simp only [Act.put, List.setIfInBounds_toArray, List.set_cons_zero, List.set_cons_succ]
          first
            | (refine held_take 8 122 (v := ?_) rfl rfl (by kernel_rfl) (by kernel_rfl) (by kernel_rfl) (fun _ _ _ h => h) (by assumption) (by rfl) ?_ ?_; rotate_left; (focus (intro w hSw; obtain ⟨hS0, hS1, hS2, hS3, hS4, hS5, hS6⟩ := AOpB.cells hSw; go_simp <;> with_reducible rfl)))
            | refine held_pass 8 122 rfl rfl (by kernel_rfl) (by kernel_rfl) (by kernel_rfl) (fun _ _ _ h => h) (by assumption) (by rfl) ?_
          simp only [Act.put, List.setIfInBounds_toArray, List.set_cons_zero, List.set_cons_succ]
          first
            | (refine held_take 9 123 (v := ?_) rfl rfl (by kernel_rfl) (by kernel_rfl) (by kernel_rfl) (fun _ _ _ h => h) (by assumption) (by rfl) ?_ ?_; rotate_left; (focus (intro w hSw; obtain ⟨hS0, hS1, hS2, hS3, hS4, hS5, hS6⟩ := AOpB.cells hSw; go_simp <;> with_reducible rfl)))
            | refine held_pass 9 123 rfl rfl (by kernel_rfl) (by kernel_rfl) (by kernel_rfl) (fun _ _ _ h => h) (by assumption) (by rfl) ?_
          simp only [Act.put, List.setIfInBounds_toArray, List.set_cons_zero, List.set_cons_succ]
          first
            | (refine held_take 10 124 (v := ?_) rfl rfl (by kernel_rfl) (by kernel_rfl) (by kernel_rfl) (fun _ _ _ h => h) (by assumption) (by rfl) ?_ ?_; rotate_left; (focus (intro w hSw; obtain ⟨hS0, hS1, hS2, hS3, hS4, hS5, hS6⟩ := AOpB.cells hSw; go_simp <;> with_reducible rfl)))
            | refine held_pass 10 124 rfl rfl (by kernel_rfl) (by kernel_rfl) (by kernel_rfl) (fun _ _ _ h => h) (by assumption) (by rfl) ?_
          simp only [Act.put, List.setIfInBounds_toArray, List.set_cons_zero, List.set_cons_succ]
          first
            | (refine held_take 11 125 (v := ?_) rfl rfl (by kernel_rfl) (by kernel_rfl) (by kernel_rfl) (fun _ _ _ h => h) (by assumption) (by rfl) ?_ ?_; rotate_left; (focus (intro w hSw; obtain ⟨hS0, hS1, hS2, hS3, hS4, hS5, hS6⟩ := AOpB.cells hSw; go_simp <;> with_reducible rfl)))
            | refine held_pass 11 125 rfl rfl (by kernel_rfl) (by kernel_rfl) (by kernel_rfl) (fun _ _ _ h => h) (by assumption) (by rfl) ?_
          simp only [Act.put, List.setIfInBounds_toArray, List.set_cons_zero, List.set_cons_succ]
          first
            | (refine held_take 12 126 (v := ?_) rfl rfl (by kernel_rfl) (by kernel_rfl) (by kernel_rfl) (fun _ _ _ h => h) (by assumption) (by rfl) ?_ ?_; rotate_left; (focus (intro w hSw; obtain ⟨hS0, hS1, hS2, hS3, hS4, hS5, hS6⟩ := AOpB.cells hSw; go_simp <;> with_reducible rfl)))
            | refine held_pass 12 126 rfl rfl (by kernel_rfl) (by kernel_rfl) (by kernel_rfl) (fun _ _ _ h => h) (by assumption) (by rfl) ?_
          simp only [Act.put, List.setIfInBounds_toArray, List.set_cons_zero, List.set_cons_succ]
          first
            | (refine held_take 13 127 (v := ?_) rfl rfl (by kernel_rfl) (by kernel_rfl) (by kernel_rfl) (fun _ _ _ h => h) (by assumption) (by rfl) ?_ ?_; rotate_left; (focus (intro w hSw; obtain ⟨hS0, hS1, hS2, hS3, hS4, hS5, hS6⟩ := AOpB.cells hSw; go_simp <;> with_reducible rfl)))
            | refine held_pass 13 127 rfl rfl (by kernel_rfl) (by kernel_rfl) (by kernel_rfl) (fun _ _ _ h => h) (by assumption) (by rfl) ?_
          simp only [Act.put, List.setIfInBounds_toArray, List.set_cons_zero, List.set_cons_succ]
          first
            | (refine held_take 14 128 (v := ?_) rfl rfl (by kernel_rfl) (by kernel_rfl) (by kernel_rfl) (fun _ _ _ h => h) (by assumption) (by rfl) ?_ ?_; rotate_left; (focus (intro w hSw; obtain ⟨hS0, hS1, hS2, hS3, hS4, hS5, hS6⟩ := AOpB.cells hSw; go_simp <;> with_reducible rfl)))
            | refine held_pass 14 128 rfl rfl (by kernel_rfl) (by kernel_rfl) (by kernel_rfl) (fun _ _ _ h => h) (by assumption) (by rfl) ?_
          simp only [Act.put, List.setIfInBounds_toArray, List.set_cons_zero, List.set_cons_succ]
          refine held_call 7 121 rfl rfl (by kernel_rfl) (by rfl) (fun K hK => ?_)
          simp only [Go.wp_at_succ, Go.wp_at_zero]
          go_simp
          refine (HP.out _ (AZ.out.on (Below.drew (Below.refl _ _)))).mono ?_
          rintro e w2 ⟨rfl, Hw2⟩
          have A2 := Lib.hid Hw2.out.1
          have O2 := Lib.hid (Hw2.out.2.op (OZ.out.on (Below.drew (Below.refl _ _))))
          first | (with_reducible refine hK.out _ _ ?_ (fun hHeld => ?_)) | (go_wp2_with fail; refine hK.out _ _ ?_ (fun hHeld => ?_))
          · exact O2.out
          clear hK K
          try simp only [Act.put, List.setIfInBounds_toArray, List.set_cons_zero, List.set_cons_succ]
          refine held_call 15 129 rfl rfl (by kernel_rfl) (by rfl) (fun K hK => ?_)
          simp only [Go.wp_at_succ, Go.wp_at_zero]
          go_simp
          refine (HQ.out _ A2.out).mono ?_
          rintro e w3 ⟨rfl, Hw3⟩
          have A3 := Lib.hid Hw3.out.1
          have O3 := Lib.hid (Hw3.out.2.op (O2.out))
          first | (with_reducible refine hK.out _ _ ?_ (fun hHeld => ?_)) | (go_wp2_with fail; refine hK.out _ _ ?_ (fun hHeld => ?_))
          · exact O3.out
          clear hK K
          try simp only [Act.put, List.setIfInBounds_toArray, List.set_cons_zero, List.set_cons_succ]
          first
            | (refine held_take 16 14 (v := ?_) rfl rfl (by kernel_rfl) (by kernel_rfl) (by kernel_rfl) (fun _ _ _ h => h) (by assumption) (by rfl) ?_ ?_; rotate_left; (focus (intro w hSw; obtain ⟨hS0, hS1, hS2, hS3, hS4, hS5, hS6⟩ := AOpB.cells hSw; go_simp <;> with_reducible rfl)))
            | refine held_pass 16 14 rfl rfl (by kernel_rfl) (by kernel_rfl) (by kernel_rfl) (fun _ _ _ h => h) (by assumption) (by rfl) ?_
          simp only [Act.put, List.setIfInBounds_toArray, List.set_cons_zero, List.set_cons_succ]
          first
            | (refine held_take 17 15 (v := ?_) rfl rfl (by kernel_rfl) (by kernel_rfl) (by kernel_rfl) (fun _ _ _ h => h) (by assumption) (by rfl) ?_ ?_; rotate_left; (focus (intro w hSw; obtain ⟨hS0, hS1, hS2, hS3, hS4, hS5, hS6⟩ := AOpB.cells hSw; go_simp <;> with_reducible rfl)))
            | refine held_pass 17 15 rfl rfl (by kernel_rfl) (by kernel_rfl) (by kernel_rfl) (fun _ _ _ h => h) (by assumption) (by rfl) ?_
          simp only [Act.put, List.setIfInBounds_toArray, List.set_cons_zero, List.set_cons_succ]
          refine wpAnyH_done (by kernel_rfl) ?_ _
          clear HP HQ
          go_wp2_with fail
          go_roundw
          case rel => exact ⟨i + 1, x, s', rfl, by omega, by go_num, A3.out, hn4'.out⟩
          case measure => simp [intOf]; omega
        · have hb0 : (kd == 0) = false := beq_eq_false_iff_ne.2 hk0
          have hb1 : (kd == 1) = false := beq_eq_false_iff_ne.2 hk1
          clear hk0 hk1
          obtain ⟨s', hs'⟩ : ∃ s', lrnS s ec Lo = s' := ⟨_, rfl⟩
          obtain ⟨err, herr⟩ : ∃ e, lrnE s ec Lo = e := ⟨_, rfl⟩
          have HP : Hid (∀ u, AY n w p x s s u → Calls Try.prog 11 #[.pointer (some ⟨p, 0, none⟩), .agg #[.int .i64 ec, .slice oa lo oc]] u fun e w' => e = .returned (.int .i64 err) ∧ Hid (AY n w p x s' s w' ∧ KC u w')) := fun u hu => (ay_lrn hu ec _ Lo n (HF.out.2.keep hu.a.bel) hu.a.size (by have := HF.out.1; omega) hs' herr).mono fun _ _ ⟨he, hh⟩ => ⟨he, hh.out.1, hh.out.2⟩
          have HQ : Hid (∀ u, AY n w p x s' s u → Calls Try.prog 11 #[.pointer (some ⟨x, 0, none⟩), .agg #[.int .i64 ec, .slice oa lo oc]] u fun e w' => e = .returned (.int .i64 err) ∧ Hid (AY n w p x s' s' w' ∧ KC u w')) := fun u hu => (ay_lrn hu.symm ec _ Lo n (HF.out.2.keep hu.a.bel) hu.a.size (by have := HF.out.1; omega) hs' herr).mono fun _ _ ⟨he, hh⟩ => ⟨he, hh.out.1.symm, hh.out.2⟩
          have hn4' : Hid (s'.n = 4) := by show _ = _; rw [← hs', lrn_n]; exact hn4
          clear hs' herr
          obtain ⟨g0, g1, g2, g3, g4, g5, g6⟩ := OZ.out.cells
          dsimp only at g0 g1 g2 g3 g4 g5 g6
          go_wp2_with fail
          clear g0 g1 g2 g3 g4 g5 g6
          refine wp_region_held_drew (S := (fun u => AOpB u wr.heap.size ⟨kd, ep, r, k, ec, .slice oa lo oc, Lo, veto⟩)) (by kernel_rfl) (OZ.out.on (Below.drew (Below.refl _ _))) (fun hHeld => ?_)
          first
            | (refine held_take 0 84 (v := ?_) rfl rfl (by kernel_rfl) (by kernel_rfl) (by kernel_rfl) (fun _ _ _ h => h) (by assumption) (by rfl) ?_ ?_; rotate_left; (focus (intro w hSw; obtain ⟨hS0, hS1, hS2, hS3, hS4, hS5, hS6⟩ := AOpB.cells hSw; go_simp <;> with_reducible rfl)))
            | refine held_pass 0 84 rfl rfl (by kernel_rfl) (by kernel_rfl) (by kernel_rfl) (fun _ _ _ h => h) (by assumption) (by rfl) ?_
          simp only [Act.put, List.setIfInBounds_toArray, List.set_cons_zero, List.set_cons_succ]
          first
            | (refine held_take 1 85 (v := ?_) rfl rfl (by kernel_rfl) (by kernel_rfl) (by kernel_rfl) (fun _ _ _ h => h) (by assumption) (by rfl) ?_ ?_; rotate_left; (focus (intro w hSw; obtain ⟨hS0, hS1, hS2, hS3, hS4, hS5, hS6⟩ := AOpB.cells hSw; go_simp <;> with_reducible rfl)))
            | refine held_pass 1 85 rfl rfl (by kernel_rfl) (by kernel_rfl) (by kernel_rfl) (fun _ _ _ h => h) (by assumption) (by rfl) ?_
          simp only [Act.put, List.setIfInBounds_toArray, List.set_cons_zero, List.set_cons_succ]
          first
            | (refine held_take 2 86 (v := ?_) rfl rfl (by kernel_rfl) (by kernel_rfl) (by kernel_rfl) (fun _ _ _ h => h) (by assumption) (by rfl) ?_ ?_; rotate_left; (focus (intro w hSw; obtain ⟨hS0, hS1, hS2, hS3, hS4, hS5, hS6⟩ := AOpB.cells hSw; go_simp <;> with_reducible rfl)))
            | refine held_pass 2 86 rfl rfl (by kernel_rfl) (by kernel_rfl) (by kernel_rfl) (fun _ _ _ h => h) (by assumption) (by rfl) ?_
          simp only [Act.put, List.setIfInBounds_toArray, List.set_cons_zero, List.set_cons_succ]
          first
            | (refine held_take 4 88 (v := ?_) rfl rfl (by kernel_rfl) (by kernel_rfl) (by kernel_rfl) (fun _ _ _ h => h) (by assumption) (by rfl) ?_ ?_; rotate_left; (focus (intro w hSw; obtain ⟨hS0, hS1, hS2, hS3, hS4, hS5, hS6⟩ := AOpB.cells hSw; go_simp <;> with_reducible rfl)))
            | refine held_pass 4 88 rfl rfl (by kernel_rfl) (by kernel_rfl) (by kernel_rfl) (fun _ _ _ h => h) (by assumption) (by rfl) ?_
          simp only [Act.put, List.setIfInBounds_toArray, List.set_cons_zero, List.set_cons_succ]
          first
            | (refine held_take 5 89 (v := ?_) rfl rfl (by kernel_rfl) (by kernel_rfl) (by kernel_rfl) (fun _ _ _ h => h) (by assumption) (by rfl) ?_ ?_; rotate_left; (focus (intro w hSw; obtain ⟨hS0, hS1, hS2, hS3, hS4, hS5, hS6⟩ := AOpB.cells hSw; go_simp <;> with_reducible rfl)))
            | refine held_pass 5 89 rfl rfl (by kernel_rfl) (by kernel_rfl) (by kernel_rfl) (fun _ _ _ h => h) (by assumption) (by rfl) ?_
          simp only [Act.put, List.setIfInBounds_toArray, List.set_cons_zero, List.set_cons_succ]
          first
            | (refine held_take 6 90 (v := ?_) rfl rfl (by kernel_rfl) (by kernel_rfl) (by kernel_rfl) (fun _ _ _ h => h) (by assumption) (by rfl) ?_ ?_; rotate_left; (focus (intro w hSw; obtain ⟨hS0, hS1, hS2, hS3, hS4, hS5, hS6⟩ := AOpB.cells hSw; go_simp <;> with_reducible rfl)))
            | refine held_pass 6 90 rfl rfl (by kernel_rfl) (by kernel_rfl) (by kernel_rfl) (fun _ _ _ h => h) (by assumption) (by rfl) ?_
          simp only [Act.put, List.setIfInBounds_toArray, List.set_cons_zero, List.set_cons_succ]
          refine held_call 3 87 rfl rfl (by kernel_rfl) (by rfl) (fun K hK => ?_)
          simp only [Go.wp_at_succ, Go.wp_at_zero]
          go_simp
          refine (HP.out _ (AZ.out.on (Below.drew (Below.refl _ _)))).mono ?_
          rintro e w2 ⟨rfl, Hw2⟩
          have A2 := Lib.hid Hw2.out.1
          have O2 := Lib.hid (Hw2.out.2.op (OZ.out.on (Below.drew (Below.refl _ _))))
          first | (with_reducible refine hK.out _ _ ?_ (fun hHeld => ?_)) | (go_wp2_with fail; refine hK.out _ _ ?_ (fun hHeld => ?_))
          · exact O2.out
          clear hK K
          try simp only [Act.put, List.setIfInBounds_toArray, List.set_cons_zero, List.set_cons_succ]
          refine held_call 7 91 rfl rfl (by kernel_rfl) (by rfl) (fun K hK => ?_)
          simp only [Go.wp_at_succ, Go.wp_at_zero]
          go_simp
          refine (HQ.out _ A2.out).mono ?_
          rintro e w3 ⟨rfl, Hw3⟩
          have A3 := Lib.hid Hw3.out.1
          have O3 := Lib.hid (Hw3.out.2.op (O2.out))
          first | (with_reducible refine hK.out _ _ ?_ (fun hHeld => ?_)) | (go_wp2_with fail; refine hK.out _ _ ?_ (fun hHeld => ?_))
          · exact O3.out
          clear hK K
          try simp only [Act.put, List.setIfInBounds_toArray, List.set_cons_zero, List.set_cons_succ]
          first
            | (refine held_take 8 14 (v := ?_) rfl rfl (by kernel_rfl) (by kernel_rfl) (by kernel_rfl) (fun _ _ _ h => h) (by assumption) (by rfl) ?_ ?_; rotate_left; (focus (intro w hSw; obtain ⟨hS0, hS1, hS2, hS3, hS4, hS5, hS6⟩ := AOpB.cells hSw; go_simp <;> with_reducible rfl)))
            | refine held_pass 8 14 rfl rfl (by kernel_rfl) (by kernel_rfl) (by kernel_rfl) (fun _ _ _ h => h) (by assumption) (by rfl) ?_
          simp only [Act.put, List.setIfInBounds_toArray, List.set_cons_zero, List.set_cons_succ]
          first
            | (refine held_take 9 15 (v := ?_) rfl rfl (by kernel_rfl) (by kernel_rfl) (by kernel_rfl) (fun _ _ _ h => h) (by assumption) (by rfl) ?_ ?_; rotate_left; (focus (intro w hSw; obtain ⟨hS0, hS1, hS2, hS3, hS4, hS5, hS6⟩ := AOpB.cells hSw; go_simp <;> with_reducible rfl)))
            | refine held_pass 9 15 rfl rfl (by kernel_rfl) (by kernel_rfl) (by kernel_rfl) (fun _ _ _ h => h) (by assumption) (by rfl) ?_
          simp only [Act.put, List.setIfInBounds_toArray, List.set_cons_zero, List.set_cons_succ]
          refine wpAnyH_done (by kernel_rfl) ?_ _
          clear HP HQ
          go_wp2_with fail
          go_roundw
          case rel => exact ⟨i + 1, x, s', rfl, by omega, by go_num, A3.out, hn4'.out⟩
          case measure => simp [intOf]; omega

set_option maxRecDepth 100000 in
theorem lifted (os : Os) (started : os.Started) (H : Type) (enc : TypeId × Value → H) :
    ReturnsInHanded {} Try.checked os 7 .any (Rows.acceptBytesSpec.pre6 enc Try.prog Try.f7 Rows.acceptBytesRow.domain false) (Rows.acceptBytesSpec.post enc Try.prog Try.f7 false true false false) := by
  refine returnsInHanded_of_change (C := Try.checked) own started (by kernel_rfl) Try.func7
    (ChangeSpec.witness6 (enc := enc) (C := Try.checked) false ⟨#[], #[.slice none 0 0, .int .i64 0], []⟩ 8 (by kernel_rfl) (by kernel_rfl) (by kernel_rfl) (by kernel_rfl)) ?_
  intro W base args ds gs before hval0 hW hcnd _
  have hval : ∀ (j : Nat) t v, Try.f7.params[j]? = some t → args[j]? = some v → Value.okWide Try.prog W .any base t v := hval0
  have hW' := hW
  obtain ⟨p, q, hA0, hV, rfl, hfz, hnd⟩ := hW
  have hA : DataW.TrodAll enc Try.prog W 0 (fun _ => true) true Try.f7.params.toList args.toList ds p := hA0
  rw [Try.params7] at hA hval
  obtain ⟨v0, vs0, d0, ds0, p0, q0, hargs, rfl, rfl, h0, r0⟩ := trodAll_cons hA
  obtain ⟨v1, vs1, d1, ds1, p1, q1, rfl, rfl, rfl, h1, r1⟩ := trodAll_cons r0
  obtain ⟨rfl, rfl, rfl⟩ := trodAll_nil r1
  obtain rfl : args = #[v0, v1] := by cases args; simp_all
  obtain ⟨rfl, rfl⟩ := trodVars_none hV
  obtain ⟨a0, len0, cap0, rfl⟩ := okWide_slice Try.underlying45 (hval 0 45 v0 rfl rfl)
  have k0 := h0
  have lt0 : ∀ x ∈ p0, x.block < W.heap.size := by obtain ⟨m, hm⟩ := k0; exact DataW.trod_lt m _ _ _ hm
  obtain ⟨l0, w0⟩ := asteps_open h0
  obtain ⟨a1, rfl, rfl, rfl, w1⟩ := open_int Try.underlying3 (hval 1 3 v1 rfl rfl) h1
  clear hA0 hval0
  refine (walk (.slice a0 len0 cap0) l0 a1 W w0 w1).mono fun e W' ⟨he, bel⟩ => ?_
  subst he
  exact ⟨_, rfl, _, _, _, [], _, [], hW', trodAll_mk1 (shut_bool Try.underlying4 _), (trodAll_cons_mk (Below.trod laidOut (by kernel_rfl) (of_decide_eq_true (by kernel_rfl)) k0 bel lt0) (trodAll_cons_mk (shut_int Try.underlying3 w1) trodAll_mk0)), rfl, bel.frame _, fun h => by cases h⟩

theorem over : Rows.acceptBytesRow.holds Try.pinned (OpenSpec.ofChange Rows.acceptBytesSpec) :=
  OpenClaim.holds_of_wide 7 Try.f7 rfl rfl rfl rfl rfl rfl rfl ⟨rfl, rfl, rfl, rfl, rfl⟩ rfl rfl rfl rfl rfl (by kernel_rfl) Try.func7 (by kernel_rfl)
    (of_decide_eq_true (by kernel_rfl)) (by unfold Func.isWrapper; first | (rw [if_pos (by decide +kernel)]; kernel_rfl) | (rw [if_neg (by decide +kernel)]; exact ⟨rfl, rfl⟩))
    (fun os started H enc _ => lifted os started H enc)
end Go.Proofs.Ytaaffceanjpmbaa.AcceptBytes

namespace Go.Proofs.Ytaaffceanjpmbaa
theorem acceptBytes_holds : Rows.AcceptBytesSaid := AcceptBytes.over
#print axioms acceptBytes_holds
end Go.Proofs.Ytaaffceanjpmbaa
