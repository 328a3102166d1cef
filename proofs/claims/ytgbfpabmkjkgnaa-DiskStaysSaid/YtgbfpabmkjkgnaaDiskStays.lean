/-
  PROVED: casebooklaw7.DiskStays answers true and leaves its arguments as they were, for any two slices of bytes and any number: the row's own reading and nothing else is assumed.
-/
import Derived.Test.YtgbfpabmkjkgnaaDiskO
import Derived.Test.YtgbfpabmkjkgnaaPackArgs
import Derived.Test.YtgbfpabmkjkgnaaHeld
namespace Go.Proofs.Ytgbfpabmkjkgnaa.DiskStays
open Go.ChangeShapes Go.WideShapes Go.ChangeAt Go.RowKit

theorem byt_front {w : World} {B n m cap : Nat} {ao : Option Addr} {l : List UInt8} (h : Byt w B (.slice ao n cap) l) (hm : m ≤ l.length) : Byt w B (.slice ao m cap) (l.take m) := by
  obtain ⟨ao', cap', he, h1, h2, h3, h4⟩ := h
  simp only [Value.slice.injEq] at he
  obtain ⟨rfl, rfl, rfl⟩ := he
  have hl : (l.take m).length = m := by rw [List.length_take]; omega
  refine ⟨_, _, by rw [hl], by omega, h2, h3, fun hne => ?_⟩
  have hl0 : l ≠ [] := fun e => hne (by rw [e]; exact List.take_nil)
  obtain ⟨b, off, rfl, hb, hc⟩ := h4 hl0
  refine ⟨b, off, rfl, hb, fun j hj => ?_⟩
  rw [hl] at hj
  rw [hc j (by omega)]
  congr 3
  simp [List.getD, hj]
/-- The disk stands, and the two texts may be read. -/
def St (n : Nat) (w : World) (Y : List UInt8) (m : Nat) (va vb : Value) (A C : ByteArray) (u : World) : Prop :=
  DkO n w n Y m u ∧ (convert 28 9 va).run Try.prog u = .ok (.string A) u ∧ (convert 28 9 vb).run Try.prog u = .ok (.string C) u
theorem St.dk {n : Nat} {w : World} {Y : List UInt8} {m : Nat} {va vb : Value} {A C : ByteArray} {u : World} (h : St n w Y m va vb A C u) : DkO n w n Y m u := h.1

set_option maxRecDepth 100000 in
set_option maxHeartbeats 8000000 in
theorem walk (va : Value) (la : List UInt8) (vb : Value) (lb : List UInt8) (keep : Int) (w : World) (ha : Byt w w.heap.size va la) (hb : Byt w w.heap.size vb lb) (_ : (Lit.int .i64 keep).wf = true) :
    Calls Try.prog 4 #[va, vb, .int .i64 keep] w fun e w' => e = .returned (.bool true) ∧ Below w.heap.size w w' := by
  have HT := Lib.hid (fun u => told7_any u)
  have HN := Lib.hid (o_new w w w.heap.size (Below.refl _ _) (Nat.le_refl _))
  obtain ⟨n, hn⟩ : ∃ n, n = w.heap.size := ⟨_, rfl⟩
  rw [← hn] at HN ha hb ⊢
  have HA := Lib.hid ha
  have HB := Lib.hid hb
  obtain ⟨aa, ca, rfl, _⟩ := ha
  obtain ⟨ab, cb, rfl, hcb, _⟩ := hb
  by_cases h1 : la.length ≤ 200
  · by_cases h2 : lb.length ≤ 200
    · obtain ⟨kk, hkk⟩ : ∃ kk, kk = min keep.toNat lb.length := ⟨_, rfl⟩
      obtain ⟨m, hm⟩ : ∃ m, m = la.length + kk := ⟨_, rfl⟩
      have hkl : kk ≤ lb.length := by omega
      have hkc : (kk : Int) ≤ (cb : Int) := by omega
      have hk0 : (0 : Int) ≤ (kk : Int) := by omega
      obtain ⟨Y, hY⟩ : ∃ Y, Y = la ++ lb.take kk := ⟨_, rfl⟩
      have hYm : m = Y.length := by rw [hY, List.length_append, List.length_take]; omega
      have HY := Lib.hid hYm
      have HKK := Lib.hid hkk
      obtain ⟨X, hX⟩ : ∃ X : ByteArray, X = ⟨Y.toArray⟩ := ⟨_, rfl⟩
      obtain ⟨A, hA⟩ : ∃ A : ByteArray, A = ⟨la.toArray⟩ := ⟨_, rfl⟩
      obtain ⟨C, hC⟩ : ∃ C : ByteArray, C = ⟨(lb.take kk).toArray⟩ := ⟨_, rfl⟩
      have hAC : (Op.stringOp .add A C).run Try.prog = fun u => .ok (.string X) u := by
        funext u
        rw [run_string_add_sum (P := Try.prog) (w := u) A C (by rw [hA, hC]; show la.toArray.size + (lb.take kk).toArray.size ≤ _; rw [List.size_toArray, List.size_toArray, List.length_take]; omega), hA, hC, ByteArray.mk_append_mk, hX, hY]
      have K1 : Hid (∀ u, DkO n w n [] 0 u → Calls Try.prog 9 #[.pointer (some ⟨n, 0, none⟩), .slice aa la.length ca] u fun e w' => e = .returned (.tuple #[]) ∧ DkO n w n la 0 w') :=
        fun u hu => o_append hu (HA.out.keep hu.bel) (by simp; omega)
      have K2 : Hid (∀ u j, DkO n w n la j u → Calls Try.prog 10 #[.pointer (some ⟨n, 0, none⟩)] u fun e w' => e = .returned (.tuple #[]) ∧ DkO n w n la la.length w') :=
        fun u j hu => o_sync hu
      have K3 : Hid (∀ u, DkO n w n la la.length u → Calls Try.prog 9 #[.pointer (some ⟨n, 0, none⟩), .slice ab lb.length cb] u fun e w' => e = .returned (.tuple #[]) ∧ DkO n w n (la ++ lb) la.length w') :=
        fun u hu => o_append hu (HB.out.keep hu.bel) (by omega)
      have K9 : Hid (∀ u, DkO n w n (la ++ lb) la.length u → Calls Try.prog 17 #[.pointer (some ⟨n, 0, none⟩)] u fun e w' => e = .returned (.int .i64 la.length) ∧ u = w') :=
        fun u hu => o_synced hu
      have K4 : Hid (∀ u, DkO n w n (la ++ lb) la.length u → Calls Try.prog 12 #[.pointer (some ⟨n, 0, none⟩), .int .i64 keep] u fun e w' => e = .returned (.tuple #[]) ∧ DkO n w n Y m w') := by
        intro u hu
        have h := o_crash hu (by simp; omega) keep
        rw [show crashN (la ++ lb).length la.length keep = m by unfold crashN; rw [List.length_append, hm, hkk]; omega] at h
        rw [show (la ++ lb).take m = Y by rw [hY, hm, List.take_length_add_append]] at h
        exact h
      have SX : Hid (∀ u, DkO n w n Y m u → St n w Y m (.slice aa la.length ca) (.slice ab kk cb) A C u) := fun u hu => ⟨hu, by rw [hA]; exact run_conv_byt (HA.out.keep hu.bel), by rw [hC]; exact run_conv_byt (byt_front (HB.out.keep hu.bel) hkl)⟩
      have K5 : Hid (∀ u, St n w Y m (.slice aa la.length ca) (.slice ab kk cb) A C u → Calls Try.prog 15 #[.pointer (some ⟨n, 0, none⟩)] u fun e w' => ∃ a q, e = .returned (.slice a m q) ∧ (∀ u', Below w'.heap.size w' u' → (convert 28 9 (.slice a m q)).run Try.prog u' = .ok (.string X) u') ∧ St n w Y m (.slice aa la.length ca) (.slice ab kk cb) A C w') := by
        intro u hu
        refine (o_bytes hu.1 (by omega)).mono fun e w' ⟨a, q, he, hy, _, hb⟩ => ⟨a, q, ?_, fun u' hu' => ?_, SX.out _ (hu.1.on hb)⟩
        · rw [HY.out]; exact he
        · rw [HY.out, hX]; exact run_conv_byt (hy.keep hu')
      have K7 : Hid (∀ u, DkO n w n Y m u → Calls Try.prog 17 #[.pointer (some ⟨n, 0, none⟩)] u fun e w' => e = .returned (.int .i64 m) ∧ u = w') :=
        fun u hu => o_synced hu
      have K8 : Hid (∀ u, DkO n w n Y m u → Calls Try.prog 16 #[.pointer (some ⟨n, 0, none⟩)] u fun e w' => e = .returned (.int .i64 m) ∧ u = w') := by
        intro u hu
        rw [HY.out]
        have := o_len hu
        exact this
      clear hY hYm hm hX hA hC hn HA HB hkk
      go_enter Try.func4, Try.ntmps4
      go_wp2_with fail
      refine HN.out.mono ?_
      rintro e w1 ⟨rfl, hb⟩
      have B1 := Lib.hid hb
      clear hb
      go_wp2_with fail
      all_goals first
        | (exfalso; omega)
        | skip
      refine (K1.out _ B1.out).mono ?_
      rintro e w2 ⟨rfl, hb⟩
      have B2 := Lib.hid hb
      clear hb B1
      go_wp2_with fail
      refine (K2.out _ _ B2.out).mono ?_
      rintro e w3 ⟨rfl, hb⟩
      have B3 := Lib.hid hb
      clear hb B2
      go_wp2_with fail
      refine (K3.out _ B3.out).mono ?_
      rintro e w5 ⟨rfl, hb⟩
      have B5 := Lib.hid hb
      clear hb B3
      go_wp2_with fail
      refine (K9.out _ B5.out).mono ?_
      rintro e w6 ⟨rfl, rfl⟩
      go_wp2_with fail
      refine (K4.out _ B5.out).mono ?_
      rintro e w6 ⟨rfl, hb⟩
      have B6 := Lib.hid hb
      clear hb B5 K1 K2 K3 K4 K9 HN
      go_upto_region 11 with fail
      go_cut [9] (fun s9 wc => s9 = .int .i64 (kk : Int) ∧ Hid (DkO n w n Y m wc))
      case first =>
        have HK := Lib.hid HKK.out
        go_wp2_with fail
        all_goals
          go_meet
          refine ⟨?_, B6.out⟩
          congr 1
          have := HKK.out
          omega
      case rest =>
        obtain ⟨rfl, B7⟩ := hcut
        rename_i K hK
        refine hK _ _ ?_
        clear hK K
        go_upto_region 12 with fail
        refine wp_region_held_drew (S := St n w Y m (.slice aa la.length ca) (.slice ab kk cb) A C) (by kernel_rfl) (SX.out _ (DkO.drew B7.out)) (fun hHeld => ?_)
        refine held_call 0 40 rfl rfl (by kernel_rfl) (by rfl) (fun K hK => ?_)
        simp only [Go.wp_at_zero]
        go_simp
        go_at_call 8
        (with_reducible refine (HT.out _).mono ?_)
        rintro e u1 ⟨rfl, hb⟩
        have D1 := Lib.hid (SX.out _ ((St.dk hHeld).on hb))
        clear hb
        first | (with_reducible refine hK.out _ _ ?_ (fun hHeld => ?_)) | (go_wp2_with fail; refine hK.out _ _ ?_ (fun hHeld => ?_))
        · exact D1.out
        clear hK K
        try simp only [Act.put, List.setIfInBounds_toArray, List.set_cons_zero, List.set_cons_succ]
        first
          | (refine held_take 1 41 (v := ?_) rfl rfl (by kernel_rfl) (by kernel_rfl) (by kernel_rfl) (fun _ _ _ h => h) (by assumption) (by rfl) ?_ ?_; rotate_left; (focus (intro w hSw; (obtain ⟨_, z1, z2⟩ := hSw); go_simp <;> with_reducible rfl)))
          | refine held_pass 1 41 rfl rfl (by kernel_rfl) (by kernel_rfl) (by kernel_rfl) (fun _ _ _ h => h) (by assumption) (by rfl) ?_
        simp only [Act.put, List.setIfInBounds_toArray, List.set_cons_zero, List.set_cons_succ]
        first
          | (refine held_take 2 42 (v := ?_) rfl rfl (by kernel_rfl) (by kernel_rfl) (by kernel_rfl) (fun _ _ _ h => h) (by assumption) (by rfl) ?_ ?_; rotate_left; (focus (intro w hSw; (obtain ⟨_, z1, z2⟩ := hSw); go_simp <;> with_reducible rfl)))
          | refine held_pass 2 42 rfl rfl (by kernel_rfl) (by kernel_rfl) (by kernel_rfl) (fun _ _ _ h => h) (by assumption) (by rfl) ?_
        simp only [Act.put, List.setIfInBounds_toArray, List.set_cons_zero, List.set_cons_succ]
        first
          | (refine held_take 3 43 (v := ?_) rfl rfl (by kernel_rfl) (by kernel_rfl) (by kernel_rfl) (fun _ _ _ h => h) (by assumption) (by rfl) ?_ ?_; rotate_left; (focus (intro w hSw; (obtain ⟨_, z1, z2⟩ := hSw); go_simp <;> with_reducible rfl)))
          | refine held_pass 3 43 rfl rfl (by kernel_rfl) (by kernel_rfl) (by kernel_rfl) (fun _ _ _ h => h) (by assumption) (by rfl) ?_
        simp only [Act.put, List.setIfInBounds_toArray, List.set_cons_zero, List.set_cons_succ]
        first
          | (refine held_take 4 44 (v := ?_) rfl rfl (by kernel_rfl) (by kernel_rfl) (by kernel_rfl) (fun _ _ _ h => h) (by assumption) (by rfl) ?_ ?_; rotate_left; (focus (intro w hSw; (obtain ⟨_, z1, z2⟩ := hSw); go_simp <;> with_reducible rfl)))
          | refine held_pass 4 44 rfl rfl (by kernel_rfl) (by kernel_rfl) (by kernel_rfl) (fun _ _ _ h => h) (by assumption) (by rfl) ?_
        simp only [Act.put, List.setIfInBounds_toArray, List.set_cons_zero, List.set_cons_succ]
        first
          | (refine held_take 5 45 (v := ?_) rfl rfl (by kernel_rfl) (by kernel_rfl) (by kernel_rfl) (fun _ _ _ h => h) (by assumption) (by rfl) ?_ ?_; rotate_left; (focus (intro w hSw; (obtain ⟨_, z1, z2⟩ := hSw); go_simp <;> with_reducible rfl)))
          | refine held_pass 5 45 rfl rfl (by kernel_rfl) (by kernel_rfl) (by kernel_rfl) (fun _ _ _ h => h) (by assumption) (by rfl) ?_
        simp only [Act.put, List.setIfInBounds_toArray, List.set_cons_zero, List.set_cons_succ]
        first
          | (refine held_take 6 46 (v := ?_) rfl rfl (by kernel_rfl) (by kernel_rfl) (by kernel_rfl) (fun _ _ _ h => h) (by assumption) (by rfl) ?_ ?_; rotate_left; (focus (intro w hSw; (obtain ⟨_, z1, z2⟩ := hSw); go_simp <;> with_reducible rfl)))
          | refine held_pass 6 46 rfl rfl (by kernel_rfl) (by kernel_rfl) (by kernel_rfl) (fun _ _ _ h => h) (by assumption) (by rfl) ?_
        simp only [Act.put, List.setIfInBounds_toArray, List.set_cons_zero, List.set_cons_succ]
        first
          | (refine held_take 7 47 (v := ?_) rfl rfl (by kernel_rfl) (by kernel_rfl) (by kernel_rfl) (fun _ _ _ h => h) (by assumption) (by rfl) ?_ ?_; rotate_left; (focus (intro w hSw; (obtain ⟨_, z1, z2⟩ := hSw); go_simp <;> with_reducible rfl)))
          | refine held_pass 7 47 rfl rfl (by kernel_rfl) (by kernel_rfl) (by kernel_rfl) (fun _ _ _ h => h) (by assumption) (by rfl) ?_
        simp only [Act.put, List.setIfInBounds_toArray, List.set_cons_zero, List.set_cons_succ]
        first
          | (refine held_take 8 48 (v := ?_) rfl rfl (by kernel_rfl) (by kernel_rfl) (by kernel_rfl) (fun _ _ _ h => h) (by assumption) (by rfl) ?_ ?_; rotate_left; (focus (intro w hSw; (obtain ⟨_, z1, z2⟩ := hSw); go_simp <;> with_reducible rfl)))
          | refine held_pass 8 48 rfl rfl (by kernel_rfl) (by kernel_rfl) (by kernel_rfl) (fun _ _ _ h => h) (by assumption) (by rfl) ?_
        simp only [Act.put, List.setIfInBounds_toArray, List.set_cons_zero, List.set_cons_succ]
        first
          | (refine held_take 11 51 (v := ?_) rfl rfl (by kernel_rfl) (by kernel_rfl) (by kernel_rfl) (fun _ _ _ h => h) (by assumption) (by rfl) ?_ ?_; rotate_left; (focus (intro w hSw; (obtain ⟨_, z1, z2⟩ := hSw); go_simp <;> with_reducible rfl)))
          | refine held_pass 11 51 rfl rfl (by kernel_rfl) (by kernel_rfl) (by kernel_rfl) (fun _ _ _ h => h) (by assumption) (by rfl) ?_
        simp only [Act.put, List.setIfInBounds_toArray, List.set_cons_zero, List.set_cons_succ]
        first
          | (refine held_take 12 52 (v := ?_) rfl rfl (by kernel_rfl) (by kernel_rfl) (by kernel_rfl) (fun _ _ _ h => h) (by assumption) (by rfl) ?_ ?_; rotate_left; (focus (intro w hSw; (obtain ⟨_, z1, z2⟩ := hSw); go_simp <;> with_reducible rfl)))
          | refine held_pass 12 52 rfl rfl (by kernel_rfl) (by kernel_rfl) (by kernel_rfl) (fun _ _ _ h => h) (by assumption) (by rfl) ?_
        simp only [Act.put, List.setIfInBounds_toArray, List.set_cons_zero, List.set_cons_succ]
        first
          | (refine held_take 13 53 (v := ?_) rfl rfl (by kernel_rfl) (by kernel_rfl) (by kernel_rfl) (fun _ _ _ h => h) (by assumption) (by rfl) ?_ ?_; rotate_left; (focus (intro w hSw; (obtain ⟨_, z1, z2⟩ := hSw); go_simp <;> with_reducible rfl)))
          | refine held_pass 13 53 rfl rfl (by kernel_rfl) (by kernel_rfl) (by kernel_rfl) (fun _ _ _ h => h) (by assumption) (by rfl) ?_
        simp only [Act.put, List.setIfInBounds_toArray, List.set_cons_zero, List.set_cons_succ]
        first
          | (refine held_take 14 54 (v := ?_) rfl rfl (by kernel_rfl) (by kernel_rfl) (by kernel_rfl) (fun _ _ _ h => h) (by assumption) (by rfl) ?_ ?_; rotate_left; (focus (intro w hSw; (obtain ⟨_, z1, z2⟩ := hSw); go_simp <;> with_reducible rfl)))
          | refine held_pass 14 54 rfl rfl (by kernel_rfl) (by kernel_rfl) (by kernel_rfl) (fun _ _ _ h => h) (by assumption) (by rfl) ?_
        simp only [Act.put, List.setIfInBounds_toArray, List.set_cons_zero, List.set_cons_succ]
        first
          | (refine held_take 15 55 (v := ?_) rfl rfl (by kernel_rfl) (by kernel_rfl) (by kernel_rfl) (fun _ _ _ h => h) (by assumption) (by rfl) ?_ ?_; rotate_left; (focus (intro w hSw; (obtain ⟨_, z1, z2⟩ := hSw); go_simp <;> with_reducible rfl)))
          | refine held_pass 15 55 rfl rfl (by kernel_rfl) (by kernel_rfl) (by kernel_rfl) (fun _ _ _ h => h) (by assumption) (by rfl) ?_
        simp only [Act.put, List.setIfInBounds_toArray, List.set_cons_zero, List.set_cons_succ]
        first
          | (refine held_take 16 56 (v := ?_) rfl rfl (by kernel_rfl) (by kernel_rfl) (by kernel_rfl) (fun _ _ _ h => h) (by assumption) (by rfl) ?_ ?_; rotate_left; (focus (intro w hSw; (obtain ⟨_, z1, z2⟩ := hSw); go_simp <;> with_reducible rfl)))
          | refine held_pass 16 56 rfl rfl (by kernel_rfl) (by kernel_rfl) (by kernel_rfl) (fun _ _ _ h => h) (by assumption) (by rfl) ?_
        simp only [Act.put, List.setIfInBounds_toArray, List.set_cons_zero, List.set_cons_succ]
        first
          | (refine held_take 17 57 (v := ?_) rfl rfl (by kernel_rfl) (by kernel_rfl) (by kernel_rfl) (fun _ _ _ h => h) (by assumption) (by rfl) ?_ ?_; rotate_left; (focus (intro w hSw; (obtain ⟨_, z1, z2⟩ := hSw); go_simp <;> with_reducible rfl)))
          | refine held_pass 17 57 rfl rfl (by kernel_rfl) (by kernel_rfl) (by kernel_rfl) (fun _ _ _ h => h) (by assumption) (by rfl) ?_
        simp only [Act.put, List.setIfInBounds_toArray, List.set_cons_zero, List.set_cons_succ]
        refine held_call 9 49 rfl rfl (by kernel_rfl) (by rfl) (fun K hK => ?_)
        simp only [Go.wp_at_succ, Go.wp_at_zero]
        go_simp
        go_at_call 15
        (with_reducible refine (K5.out _ hHeld).mono ?_)
        rintro e u2 ⟨ax, qx, rfl, hk, hb⟩
        have D2 := Lib.hid hb
        have KX := Lib.hid hk
        clear hb hk
        first | (with_reducible refine hK.out _ _ ?_ (fun hHeld => ?_)) | (go_wp2_with fail; refine hK.out _ _ ?_ (fun hHeld => ?_))
        · exact D2.out
        clear hK K
        try simp only [Act.put, List.setIfInBounds_toArray, List.set_cons_zero, List.set_cons_succ]
        refine held_narrow (S' := fun u => St n w Y m (.slice aa la.length ca) (.slice ab kk cb) A C u ∧ Below u2.heap.size u2 u) (fun _ h => h.1) _ _ _ _ ?_
        have hHeld2 : (fun u => St n w Y m (.slice aa la.length ca) (.slice ab kk cb) A C u ∧ Below u2.heap.size u2 u) u2 := ⟨D2.out, Below.refl _ _⟩
        first
          | (refine held_take 10 50 (v := ?_) rfl rfl (by kernel_rfl) (by kernel_rfl) (by kernel_rfl) (fun _ _ _ h => h) (by assumption) (by rfl) ?_ ?_; rotate_left; (focus (intro w hSw; (obtain ⟨⟨_, z1, z2⟩, zb⟩ := hSw; have z3 := KX.out _ zb); go_simp <;> with_reducible rfl)))
          | refine held_pass 10 50 rfl rfl (by kernel_rfl) (by kernel_rfl) (by kernel_rfl) (fun _ _ _ h => h) (by assumption) (by rfl) ?_
        simp only [Act.put, List.setIfInBounds_toArray, List.set_cons_zero, List.set_cons_succ]
        first
          | (refine held_take 18 58 (v := ?_) rfl rfl (by kernel_rfl) (by kernel_rfl) (by kernel_rfl) (fun _ _ _ h => h) (by assumption) (by rfl) ?_ ?_; rotate_left; (focus (intro w hSw; (obtain ⟨⟨_, z1, z2⟩, zb⟩ := hSw; have z3 := KX.out _ zb); go_simp <;> with_reducible rfl)))
          | refine held_pass 18 58 rfl rfl (by kernel_rfl) (by kernel_rfl) (by kernel_rfl) (fun _ _ _ h => h) (by assumption) (by rfl) ?_
        simp only [Act.put, List.setIfInBounds_toArray, List.set_cons_zero, List.set_cons_succ]
        first
          | (refine held_take 19 59 (v := ?_) rfl rfl (by kernel_rfl) (by kernel_rfl) (by kernel_rfl) (fun _ _ _ h => h) (by assumption) (by rfl) ?_ ?_; rotate_left; (focus (intro w hSw; (obtain ⟨⟨_, z1, z2⟩, zb⟩ := hSw; have z3 := KX.out _ zb); go_simp <;> with_reducible rfl)))
          | refine held_pass 19 59 rfl rfl (by kernel_rfl) (by kernel_rfl) (by kernel_rfl) (fun _ _ _ h => h) (by assumption) (by rfl) ?_
        simp only [Act.put, List.setIfInBounds_toArray, List.set_cons_zero, List.set_cons_succ]
        first
          | (refine held_take 20 60 (v := ?_) rfl rfl (by kernel_rfl) (by kernel_rfl) (by kernel_rfl) (fun _ _ _ h => h) (by assumption) (by rfl) ?_ ?_; rotate_left; (focus (intro w hSw; (obtain ⟨⟨_, z1, z2⟩, zb⟩ := hSw; have z3 := KX.out _ zb); go_simp <;> with_reducible rfl)))
          | refine held_pass 20 60 rfl rfl (by kernel_rfl) (by kernel_rfl) (by kernel_rfl) (fun _ _ _ h => h) (by assumption) (by rfl) ?_
        simp only [Act.put, List.setIfInBounds_toArray, List.set_cons_zero, List.set_cons_succ]
        first
          | (refine held_take 21 61 (v := ?_) rfl rfl (by kernel_rfl) (by kernel_rfl) (by kernel_rfl) (fun _ _ _ h => h) (by assumption) (by rfl) ?_ ?_; rotate_left; (focus (intro w hSw; (obtain ⟨⟨_, z1, z2⟩, zb⟩ := hSw; have z3 := KX.out _ zb); go_simp <;> with_reducible rfl)))
          | refine held_pass 21 61 rfl rfl (by kernel_rfl) (by kernel_rfl) (by kernel_rfl) (fun _ _ _ h => h) (by assumption) (by rfl) ?_
        simp only [Act.put, List.setIfInBounds_toArray, List.set_cons_zero, List.set_cons_succ]
        first
          | (refine held_take 23 63 (v := ?_) rfl rfl (by kernel_rfl) (by kernel_rfl) (by kernel_rfl) (fun _ _ _ h => h) (by assumption) (by rfl) ?_ ?_; rotate_left; (focus (intro w hSw; (obtain ⟨⟨_, z1, z2⟩, zb⟩ := hSw; have z3 := KX.out _ zb); go_simp <;> with_reducible rfl)))
          | refine held_pass 23 63 rfl rfl (by kernel_rfl) (by kernel_rfl) (by kernel_rfl) (fun _ _ _ h => h) (by assumption) (by rfl) ?_
        simp only [Act.put, List.setIfInBounds_toArray, List.set_cons_zero, List.set_cons_succ]
        refine held_call 22 62 rfl rfl (by kernel_rfl) (by rfl) (fun K hK => ?_)
        simp only [Go.wp_at_succ, Go.wp_at_zero]
        go_simp
        go_at_call 17
        (with_reducible refine (K7.out _ (St.dk D2.out)).mono ?_)
        rintro e u3 ⟨rfl, rfl⟩
        first | (with_reducible refine hK.out _ _ ?_ (fun hHeld => ?_)) | (go_wp2_with fail; refine hK.out _ _ ?_ (fun hHeld => ?_))
        · exact hHeld2
        clear hK K
        try simp only [Act.put, List.setIfInBounds_toArray, List.set_cons_zero, List.set_cons_succ]
        refine held_call 24 64 rfl rfl (by kernel_rfl) (by rfl) (fun K hK => ?_)
        simp only [Go.wp_at_succ, Go.wp_at_zero]
        go_simp
        go_at_call 16
        (with_reducible refine (K8.out _ (St.dk D2.out)).mono ?_)
        rintro e u4 ⟨rfl, rfl⟩
        first | (with_reducible refine hK.out _ _ ?_ (fun hHeld => ?_)) | (go_wp2_with fail; refine hK.out _ _ ?_ (fun hHeld => ?_))
        · exact hHeld2
        clear hK K
        try simp only [Act.put, List.setIfInBounds_toArray, List.set_cons_zero, List.set_cons_succ]
        first
          | (refine held_take 25 65 (v := ?_) rfl rfl (by kernel_rfl) (by kernel_rfl) (by kernel_rfl) (fun _ _ _ h => h) (by assumption) (by rfl) ?_ ?_; rotate_left; (focus (intro w hSw; (obtain ⟨⟨_, z1, z2⟩, zb⟩ := hSw; have z3 := KX.out _ zb); go_simp <;> with_reducible rfl)))
          | refine held_pass 25 65 rfl rfl (by kernel_rfl) (by kernel_rfl) (by kernel_rfl) (fun _ _ _ h => h) (by assumption) (by rfl) ?_
        simp only [Act.put, List.setIfInBounds_toArray, List.set_cons_zero, List.set_cons_succ]
        first
          | (refine held_take 26 66 (v := ?_) rfl rfl (by kernel_rfl) (by kernel_rfl) (by kernel_rfl) (fun _ _ _ h => h) (by assumption) (by rfl) ?_ ?_; rotate_left; (focus (intro w hSw; (obtain ⟨⟨_, z1, z2⟩, zb⟩ := hSw; have z3 := KX.out _ zb); go_simp <;> with_reducible rfl)))
          | refine held_pass 26 66 rfl rfl (by kernel_rfl) (by kernel_rfl) (by kernel_rfl) (fun _ _ _ h => h) (by assumption) (by rfl) ?_
        simp only [Act.put, List.setIfInBounds_toArray, List.set_cons_zero, List.set_cons_succ]
        first
          | (refine held_take 27 6 (v := ?_) rfl rfl (by kernel_rfl) (by kernel_rfl) (by kernel_rfl) (fun _ _ _ h => h) (by assumption) (by rfl) ?_ ?_; rotate_left; (focus (intro w hSw; (obtain ⟨⟨_, z1, z2⟩, zb⟩ := hSw; have z3 := KX.out _ zb); go_simp <;> with_reducible rfl)))
          | refine held_pass 27 6 rfl rfl (by kernel_rfl) (by kernel_rfl) (by kernel_rfl) (fun _ _ _ h => h) (by assumption) (by rfl) ?_
        simp only [Act.put, List.setIfInBounds_toArray, List.set_cons_zero, List.set_cons_succ]
        refine wpAnyH_done (by kernel_rfl) ?_ _
        go_wp2
        go_returns
        exact ⟨rfl, (St.dk D2.out).bel⟩
    · clear HA HB hn
      go_enter Try.func4, Try.ntmps4
      go_wp2_with fail
      refine HN.out.mono ?_
      rintro e w1 ⟨rfl, hb⟩
      have B1 := Lib.hid hb
      clear hb
      go_wp2_with fail
      all_goals first
        | (exfalso; omega)
        | skip
      refine (HT.out _).mono ?_
      rintro e w9 ⟨rfl, hb⟩
      have B9 := Lib.hid (B1.out.on hb)
      clear hb
      go_wp2
      go_returns
      exact ⟨rfl, B9.out.bel⟩
  · clear HA HB hn
    go_enter Try.func4, Try.ntmps4
    go_wp2_with fail
    refine HN.out.mono ?_
    rintro e w1 ⟨rfl, hb⟩
    have B1 := Lib.hid hb
    clear hb
    go_wp2_with fail
    all_goals first
      | (exfalso; omega)
      | skip
    refine (HT.out _).mono ?_
    rintro e w9 ⟨rfl, hb⟩
    have B9 := Lib.hid (B1.out.on hb)
    clear hb
    go_wp2
    go_returns
    exact ⟨rfl, B9.out.bel⟩


set_option maxRecDepth 100000 in
theorem lifted (os : Os) (started : os.Started) (H : Type) (enc : TypeId × Value → H) :
    ReturnsInHanded {} Try.checked os 4 .any (Rows.diskStaysSpec.pre6 enc Try.prog Try.f4 Rows.diskStaysRow.domain false) (Rows.diskStaysSpec.post enc Try.prog Try.f4 false true false false) := by
  refine returnsInHanded_of_change (C := Try.checked) own started (by kernel_rfl) Try.func4
    (ChangeSpec.witness6 (enc := enc) (C := Try.checked) false ⟨#[], #[.slice none 0 0, .slice none 0 0, .int .i64 0], []⟩ 8 (by kernel_rfl) (by kernel_rfl) (by kernel_rfl) (by kernel_rfl)) ?_
  intro W base args ds gs before hval0 hW hcnd _
  have hval : ∀ (j : Nat) t v, Try.f4.params[j]? = some t → args[j]? = some v → Value.okWide Try.prog W .any base t v := hval0
  have hW' := hW
  obtain ⟨p, q, hA0, hV, rfl, hfz, hnd⟩ := hW
  have hA : DataW.TrodAll enc Try.prog W 0 (fun _ => true) true Try.f4.params.toList args.toList ds p := hA0
  rw [Try.params4] at hA hval
  obtain ⟨v0, vs0, d0, ds0, p0, q0, hargs, rfl, rfl, h0, r0⟩ := trodAll_cons hA
  obtain ⟨v1, vs1, d1, ds1, p1, q1, rfl, rfl, rfl, h1, r1⟩ := trodAll_cons r0
  obtain ⟨v2, vs2, d2, ds2, p2, q2, rfl, rfl, rfl, h2, r2⟩ := trodAll_cons r1
  obtain ⟨rfl, rfl, rfl⟩ := trodAll_nil r2
  obtain rfl : args = #[v0, v1, v2] := by cases args; simp_all
  obtain ⟨rfl, rfl⟩ := trodVars_none hV
  obtain ⟨a0, len0, cap0, rfl⟩ := okWide_slice Try.underlying28 (hval 0 28 v0 rfl rfl)
  have k0 := h0
  have lt0 : ∀ x ∈ p0, x.block < W.heap.size := by obtain ⟨m, hm⟩ := k0; exact DataW.trod_lt m _ _ _ hm
  obtain ⟨l0, w0⟩ : ∃ l, Byt W W.heap.size (.slice a0 len0 cap0) l := by
    obtain ⟨fuel, hf⟩ := h0
    rcases open_ints Try.underlying28 Try.underlying5 (by kernel_rfl) hf with ⟨hcs, _⟩ | ⟨x, l, c, zs, hcs, _, hl, hm, hz, _, hcell, hwz⟩
    · simp [Value.cells] at hcs
      obtain ⟨rfl, rfl, rfl⟩ := hcs
      exact ⟨[], Byt.none _ _⟩
    · simp [Value.cells] at hcs
      obtain ⟨rfl, rfl, rfl⟩ := hcs
      obtain ⟨l, _, hb⟩ := byt_row hl hm (by simpa using hz) hcell hwz
      exact ⟨l, hb⟩
  obtain ⟨a1, len1, cap1, rfl⟩ := okWide_slice Try.underlying28 (hval 1 28 v1 rfl rfl)
  have k1 := h1
  have lt1 : ∀ x ∈ p1, x.block < W.heap.size := by obtain ⟨m, hm⟩ := k1; exact DataW.trod_lt m _ _ _ hm
  obtain ⟨l1, w1⟩ : ∃ l, Byt W W.heap.size (.slice a1 len1 cap1) l := by
    obtain ⟨fuel, hf⟩ := h1
    rcases open_ints Try.underlying28 Try.underlying5 (by kernel_rfl) hf with ⟨hcs, _⟩ | ⟨x, l, c, zs, hcs, _, hl, hm, hz, _, hcell, hwz⟩
    · simp [Value.cells] at hcs
      obtain ⟨rfl, rfl, rfl⟩ := hcs
      exact ⟨[], Byt.none _ _⟩
    · simp [Value.cells] at hcs
      obtain ⟨rfl, rfl, rfl⟩ := hcs
      obtain ⟨l, _, hb⟩ := byt_row hl hm (by simpa using hz) hcell hwz
      exact ⟨l, hb⟩
  obtain ⟨a2, rfl, rfl, rfl, w2⟩ := open_int Try.underlying3 (hval 2 3 v2 rfl rfl) h2
  clear hA0 hval0
  refine (walk (.slice a0 len0 cap0) l0 (.slice a1 len1 cap1) l1 a2 W w0 w1 w2).mono fun e W' ⟨he, bel⟩ => ?_
  subst he
  exact ⟨_, rfl, _, _, _, [], _, [], hW', trodAll_mk1 (shut_bool Try.underlying4 _), (trodAll_cons_mk (Below.trod laidOut (by kernel_rfl) (of_decide_eq_true (by kernel_rfl)) k0 bel lt0) (trodAll_cons_mk (Below.trod laidOut (by kernel_rfl) (of_decide_eq_true (by kernel_rfl)) k1 bel lt1) (trodAll_cons_mk (shut_int Try.underlying3 w2) trodAll_mk0))), rfl, bel.frame _, fun h => by cases h⟩

theorem over : Rows.diskStaysRow.holds Try.pinned (OpenSpec.ofChange Rows.diskStaysSpec) :=
  OpenClaim.holds_of_wide 4 Try.f4 rfl rfl rfl rfl rfl rfl rfl ⟨rfl, rfl, rfl, rfl, rfl⟩ rfl rfl rfl rfl rfl (by kernel_rfl) Try.func4 (by kernel_rfl)
    (of_decide_eq_true (by kernel_rfl)) (by unfold Func.isWrapper; first | (rw [if_pos (by decide +kernel)]; kernel_rfl) | (rw [if_neg (by decide +kernel)]; exact ⟨rfl, rfl⟩))
    (fun os started H enc _ => lifted os started H enc)
end Go.Proofs.Ytgbfpabmkjkgnaa.DiskStays

namespace Go.Proofs.Ytgbfpabmkjkgnaa
theorem diskStays_holds : Rows.DiskStaysSaid := DiskStays.over
#print axioms diskStays_holds
end Go.Proofs.Ytgbfpabmkjkgnaa
