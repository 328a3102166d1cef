/-
  PROVED: casebooklaw7.DiskTwice answers true and leaves its arguments as they were, for any two slices of bytes and any two numbers: the row's own reading and nothing else is assumed.
-/
import Derived.Test.YtgbfpabmkjkgnaaDiskO
import Derived.Test.YtgbfpabmkjkgnaaPackArgs
namespace Go.Proofs.Ytgbfpabmkjkgnaa.DiskTwice
open Go.ChangeShapes Go.WideShapes Go.ChangeAt Go.RowKit

theorem crash_le (len k : Nat) (keep : Int) (h : k ≤ len) : crashN len k keep ≤ len := by unfold crashN; omega
theorem crash_again (len : Nat) (keep : Int) : crashN len len keep = len := by unfold crashN; omega
theorem o_again {n : Nat} {w0 w : World} {g m : Nat} {Y : List UInt8} (h : DkO n w0 g Y m w) (hm : m = Y.length) (hlim : Y.length ≤ 140737488355328) (keep : Int) :
    Calls Try.prog 12 #[.pointer (some ⟨g, 0, none⟩), .int .i64 keep] w fun e w' => e = .returned (.tuple #[]) ∧ DkO n w0 g Y m w' := by
  subst hm
  have := o_crash h hlim keep
  rwa [crash_again, List.take_length] at this

set_option maxRecDepth 100000 in
set_option maxHeartbeats 4000000 in
theorem walk (va : Value) (la : List UInt8) (vb : Value) (lb : List UInt8) (keep more : Int) (w : World) (ha : Byt w w.heap.size va la) (hb : Byt w w.heap.size vb lb) (_ : (Lit.int .i64 keep).wf = true) (_ : (Lit.int .i64 more).wf = true) :
    Calls Try.prog 5 #[va, vb, .int .i64 keep, .int .i64 more] w fun e w' => e = .returned (.bool true) ∧ Below w.heap.size w w' := by
  have HT := Lib.hid (fun u => told7_any u)
  have HN := Lib.hid (o_new w w w.heap.size (Below.refl _ _) (Nat.le_refl _))
  obtain ⟨n, hn⟩ : ∃ n, n = w.heap.size := ⟨_, rfl⟩
  rw [← hn] at HN ha hb ⊢
  have HA := Lib.hid ha
  have HB := Lib.hid hb
  obtain ⟨aa, ca, rfl, _⟩ := ha
  obtain ⟨ab, cb, rfl, _⟩ := hb
  by_cases h1 : la.length ≤ 100
  · by_cases h2 : lb.length ≤ 100
    · obtain ⟨m, hm⟩ : ∃ m, m = crashN (la.length + lb.length) la.length keep := ⟨_, rfl⟩
      have hml : m ≤ la.length + lb.length := by rw [hm]; exact crash_le _ _ _ (by omega)
      obtain ⟨Y, hY⟩ : ∃ Y, Y = (la ++ lb).take m := ⟨_, rfl⟩
      have hYm : m = Y.length := by rw [hY, List.length_take, List.length_append]; omega
      have HY := Lib.hid hYm
      have K1 : Hid (∀ u, DkO n w n [] 0 u → Calls Try.prog 9 #[.pointer (some ⟨n, 0, none⟩), .slice aa la.length ca] u fun e w' => e = .returned (.tuple #[]) ∧ DkO n w n la 0 w') :=
        fun u hu => o_append hu (HA.out.keep hu.bel) (by simp; omega)
      have K2 : Hid (∀ u j, DkO n w n la j u → Calls Try.prog 10 #[.pointer (some ⟨n, 0, none⟩)] u fun e w' => e = .returned (.tuple #[]) ∧ DkO n w n la la.length w') :=
        fun u j hu => o_sync hu
      have K3 : Hid (∀ u, DkO n w n la la.length u → Calls Try.prog 9 #[.pointer (some ⟨n, 0, none⟩), .slice ab lb.length cb] u fun e w' => e = .returned (.tuple #[]) ∧ DkO n w n (la ++ lb) la.length w') :=
        fun u hu => o_append hu (HB.out.keep hu.bel) (by omega)
      have K4 : Hid (∀ u, DkO n w n (la ++ lb) la.length u → Calls Try.prog 12 #[.pointer (some ⟨n, 0, none⟩), .int .i64 keep] u fun e w' => e = .returned (.tuple #[]) ∧ DkO n w n Y m w') := by
        intro u hu
        have := o_crash hu (by simp; omega) keep
        rwa [List.length_append, ← hm, ← hY] at this
      have K5 : Hid (∀ u, DkO n w n Y m u → Calls Try.prog 15 #[.pointer (some ⟨n, 0, none⟩)] u fun e w' => ∃ a q, e = .returned (.slice a m q) ∧ (convert 28 9 (.slice a m q)).run Try.prog w' = .ok (.string ⟨Y.toArray⟩) w' ∧ DkO n w n Y m w') := by
        intro u hu
        refine (o_bytes hu (by omega)).mono fun e w' ⟨a, q, he, hy, _, hb⟩ => ⟨a, q, ?_, ?_, hu.on hb⟩
        · rw [HY.out]; exact he
        · rw [HY.out]; exact run_conv_byt hy
      have K6 : Hid (∀ u, DkO n w n Y m u → Calls Try.prog 12 #[.pointer (some ⟨n, 0, none⟩), .int .i64 more] u fun e w' => e = .returned (.tuple #[]) ∧ DkO n w n Y m w') :=
        fun u hu => o_again hu HY.out (by omega) more
      have K7 : Hid (∀ u, DkO n w n Y m u → Calls Try.prog 17 #[.pointer (some ⟨n, 0, none⟩)] u fun e w' => e = .returned (.int .i64 m) ∧ u = w') :=
        fun u hu => o_synced hu
      have K8 : Hid (∀ u, DkO n w n Y m u → Calls Try.prog 16 #[.pointer (some ⟨n, 0, none⟩)] u fun e w' => e = .returned (.int .i64 m) ∧ u = w') := by
        intro u hu
        rw [HY.out]
        have := o_len hu
        exact this
      obtain ⟨X, hX⟩ : ∃ X : ByteArray, X = ⟨Y.toArray⟩ := ⟨_, rfl⟩
      have hXs : X.size = m := by rw [hX, HY.out]; exact List.size_toArray ..
      rw [← hX] at K5
      clear hY hYm hm hX HA HB hn
      go_enter Try.func5, Try.ntmps5
      go_wp2_with fail
      refine HN.out.mono ?_
      rintro e w1 ⟨rfl, hb⟩
      have B1 := Lib.hid hb
      clear hb
      go_wp2_with fail
      all_goals first
        | (exfalso; omega)
        | skip
      refine (K1.out _ B1.out).mono ?_
      rintro e w2 ⟨rfl, hb⟩
      have B2 := Lib.hid hb
      clear hb B1
      go_wp2_with fail
      refine (K2.out _ _ B2.out).mono ?_
      rintro e w3 ⟨rfl, hb⟩
      have B3 := Lib.hid hb
      clear hb B2
      go_wp2_with fail
      refine (K2.out _ _ B3.out).mono ?_
      rintro e w4 ⟨rfl, hb⟩
      have B4 := Lib.hid hb
      clear hb B3
      go_wp2_with fail
      refine (K3.out _ B4.out).mono ?_
      rintro e w5 ⟨rfl, hb⟩
      have B5 := Lib.hid hb
      clear hb B4
      go_wp2_with fail
      refine (K4.out _ B5.out).mono ?_
      rintro e w6 ⟨rfl, hb⟩
      have B6 := Lib.hid hb
      clear hb B5
      go_wp2_with fail
      refine (K5.out _ B6.out).mono ?_
      rintro e w7 ⟨a, q, rfl, hk, hb⟩
      have B7 := Lib.hid hb
      clear hb B6
      go_wp2_with fail
      clear hk
      refine (K6.out _ B7.out).mono ?_
      rintro e w8 ⟨rfl, hb⟩
      have B8 := Lib.hid hb
      clear hb B7
      go_wp2_with fail
      refine (HT.out _).mono ?_
      rintro e w9 ⟨rfl, hb⟩
      have B9 := Lib.hid (B8.out.on hb)
      clear hb B8
      go_wp2_with fail
      refine (K5.out _ B9.out).mono ?_
      rintro e w10 ⟨a2, q2, rfl, hk, hb⟩
      have B10 := Lib.hid hb
      clear hb B9
      go_wp2_with fail
      refine (K7.out _ B10.out).mono ?_
      rintro e w11 ⟨rfl, rfl⟩
      clear hk
      go_wp2_with fail
      refine (K8.out _ B10.out).mono ?_
      rintro e w11 ⟨rfl, rfl⟩
      go_wp2
      go_returns
      exact ⟨rfl, B10.out.bel⟩
    · clear HA HB hn
      go_enter Try.func5, Try.ntmps5
      go_wp2_with fail
      refine HN.out.mono ?_
      rintro e w1 ⟨rfl, hb⟩
      have B1 := Lib.hid hb
      clear hb
      go_wp2_with fail
      all_goals first
        | (exfalso; omega)
        | skip
      refine (HT.out _).mono ?_
      rintro e w9 ⟨rfl, hb⟩
      have B9 := Lib.hid (B1.out.on hb)
      clear hb
      go_wp2
      go_returns
      exact ⟨rfl, B9.out.bel⟩
  · clear HA HB hn
    go_enter Try.func5, Try.ntmps5
    go_wp2_with fail
    refine HN.out.mono ?_
    rintro e w1 ⟨rfl, hb⟩
    have B1 := Lib.hid hb
    clear hb
    go_wp2_with fail
    all_goals first
      | (exfalso; omega)
      | skip
    refine (HT.out _).mono ?_
    rintro e w9 ⟨rfl, hb⟩
    have B9 := Lib.hid (B1.out.on hb)
    clear hb
    go_wp2
    go_returns
    exact ⟨rfl, B9.out.bel⟩


set_option maxRecDepth 100000 in
theorem lifted (os : Os) (started : os.Started) (H : Type) (enc : TypeId × Value → H) :
    ReturnsInHanded {} Try.checked os 5 .any (Rows.diskTwiceSpec.pre6 enc Try.prog Try.f5 Rows.diskTwiceRow.domain false) (Rows.diskTwiceSpec.post enc Try.prog Try.f5 false true false false) := by
  refine returnsInHanded_of_change (C := Try.checked) own started (by kernel_rfl) Try.func5
    (ChangeSpec.witness6 (enc := enc) (C := Try.checked) false ⟨#[], #[.slice none 0 0, .slice none 0 0, .int .i64 0, .int .i64 0], []⟩ 8 (by kernel_rfl) (by kernel_rfl) (by kernel_rfl) (by kernel_rfl)) ?_
  intro W base args ds gs before hval0 hW hcnd _
  have hval : ∀ (j : Nat) t v, Try.f5.params[j]? = some t → args[j]? = some v → Value.okWide Try.prog W .any base t v := hval0
  have hW' := hW
  obtain ⟨p, q, hA0, hV, rfl, hfz, hnd⟩ := hW
  have hA : DataW.TrodAll enc Try.prog W 0 (fun _ => true) true Try.f5.params.toList args.toList ds p := hA0
  rw [Try.params5] at hA hval
  obtain ⟨v0, vs0, d0, ds0, p0, q0, hargs, rfl, rfl, h0, r0⟩ := trodAll_cons hA
  obtain ⟨v1, vs1, d1, ds1, p1, q1, rfl, rfl, rfl, h1, r1⟩ := trodAll_cons r0
  obtain ⟨v2, vs2, d2, ds2, p2, q2, rfl, rfl, rfl, h2, r2⟩ := trodAll_cons r1
  obtain ⟨v3, vs3, d3, ds3, p3, q3, rfl, rfl, rfl, h3, r3⟩ := trodAll_cons r2
  obtain ⟨rfl, rfl, rfl⟩ := trodAll_nil r3
  obtain rfl : args = #[v0, v1, v2, v3] := by cases args; simp_all
  obtain ⟨rfl, rfl⟩ := trodVars_none hV
  obtain ⟨a0, len0, cap0, rfl⟩ := okWide_slice Try.underlying28 (hval 0 28 v0 rfl rfl)
  have k0 := h0
  have lt0 : ∀ x ∈ p0, x.block < W.heap.size := by obtain ⟨m, hm⟩ := k0; exact DataW.trod_lt m _ _ _ hm
  obtain ⟨l0, w0⟩ : ∃ l, Byt W W.heap.size (.slice a0 len0 cap0) l := by
    obtain ⟨fuel, hf⟩ := h0
    rcases open_ints Try.underlying28 Try.underlying5 (by kernel_rfl) hf with ⟨hcs, _⟩ | ⟨x, l, c, zs, hcs, _, hl, hm, hz, _, hcell, hwz⟩
    · simp [Value.cells] at hcs
      obtain ⟨rfl, rfl, rfl⟩ := hcs
      exact ⟨[], Byt.none _ _⟩
    · simp [Value.cells] at hcs
      obtain ⟨rfl, rfl, rfl⟩ := hcs
      obtain ⟨l, _, hb⟩ := byt_row hl hm (by simpa using hz) hcell hwz
      exact ⟨l, hb⟩
  obtain ⟨a1, len1, cap1, rfl⟩ := okWide_slice Try.underlying28 (hval 1 28 v1 rfl rfl)
  have k1 := h1
  have lt1 : ∀ x ∈ p1, x.block < W.heap.size := by obtain ⟨m, hm⟩ := k1; exact DataW.trod_lt m _ _ _ hm
  obtain ⟨l1, w1⟩ : ∃ l, Byt W W.heap.size (.slice a1 len1 cap1) l := by
    obtain ⟨fuel, hf⟩ := h1
    rcases open_ints Try.underlying28 Try.underlying5 (by kernel_rfl) hf with ⟨hcs, _⟩ | ⟨x, l, c, zs, hcs, _, hl, hm, hz, _, hcell, hwz⟩
    · simp [Value.cells] at hcs
      obtain ⟨rfl, rfl, rfl⟩ := hcs
      exact ⟨[], Byt.none _ _⟩
    · simp [Value.cells] at hcs
      obtain ⟨rfl, rfl, rfl⟩ := hcs
      obtain ⟨l, _, hb⟩ := byt_row hl hm (by simpa using hz) hcell hwz
      exact ⟨l, hb⟩
  obtain ⟨a2, rfl, rfl, rfl, w2⟩ := open_int Try.underlying3 (hval 2 3 v2 rfl rfl) h2
  obtain ⟨a3, rfl, rfl, rfl, w3⟩ := open_int Try.underlying3 (hval 3 3 v3 rfl rfl) h3
  clear hA0 hval0
  refine (walk (.slice a0 len0 cap0) l0 (.slice a1 len1 cap1) l1 a2 a3 W w0 w1 w2 w3).mono fun e W' ⟨he, bel⟩ => ?_
  subst he
  exact ⟨_, rfl, _, _, _, [], _, [], hW', trodAll_mk1 (shut_bool Try.underlying4 _), (trodAll_cons_mk (Below.trod laidOut (by kernel_rfl) (of_decide_eq_true (by kernel_rfl)) k0 bel lt0) (trodAll_cons_mk (Below.trod laidOut (by kernel_rfl) (of_decide_eq_true (by kernel_rfl)) k1 bel lt1) (trodAll_cons_mk (shut_int Try.underlying3 w2) (trodAll_cons_mk (shut_int Try.underlying3 w3) trodAll_mk0)))), rfl, bel.frame _, fun h => by cases h⟩

theorem over : Rows.diskTwiceRow.holds Try.pinned (OpenSpec.ofChange Rows.diskTwiceSpec) :=
  OpenClaim.holds_of_wide 5 Try.f5 rfl rfl rfl rfl rfl rfl rfl ⟨rfl, rfl, rfl, rfl, rfl⟩ rfl rfl rfl rfl rfl (by kernel_rfl) Try.func5 (by kernel_rfl)
    (of_decide_eq_true (by kernel_rfl)) (by unfold Func.isWrapper; first | (rw [if_pos (by decide +kernel)]; kernel_rfl) | (rw [if_neg (by decide +kernel)]; exact ⟨rfl, rfl⟩))
    (fun os started H enc _ => lifted os started H enc)
end Go.Proofs.Ytgbfpabmkjkgnaa.DiskTwice

namespace Go.Proofs.Ytgbfpabmkjkgnaa
theorem diskTwice_holds : Rows.DiskTwiceSaid := DiskTwice.over
#print axioms diskTwice_holds
end Go.Proofs.Ytgbfpabmkjkgnaa
