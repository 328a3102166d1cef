/-
  PROVED: casebooklaw14.TallyMajorities answers true and leaves its arguments as they were, for any numbers: the row's own reading and nothing else is assumed.
-/
import Derived.Test.YtiidmiioegdfaaaTalT
import Derived.Test.YtiidmiioegdfaaaClockV
import Derived.Test.YtiidmiioegdfaaaBallotArgs
import Derived.Laws.BitsLemmas
namespace Go.Proofs.Ytiidmiioegdfaaa
theorem i64_and1 (n : Int) : bits .and .i64 n 1 = n % 2 := by
  have h127 : (BitVec.ofInt 64 1).toNat = 2 ^ 1 - 1 := by decide
  have key : (BitVec.ofInt 64 n &&& BitVec.ofInt 64 1).toNat = (n % ((2 ^ 64 : Nat) : Int)).toNat % 2 ^ 1 := by
    rw [BitVec.toNat_and, BitVec.toNat_ofInt, h127, Nat.and_two_pow_sub_one_eq_mod]
  show IntKind.i64.wrap ((BitVec.ofInt 64 n &&& BitVec.ofInt 64 1).toNat : Nat) = n % 2
  rw [key, IntKind.wrap_i64]
  omega
theorem bit_of (a : Int) (i : Nat) : ∃ x : Int, bits .and .i64 (a / 2 ^ i) 1 = x ∧ (x = 0 ∨ x = 1) := ⟨_, rfl, by rw [i64_and1]; omega⟩
end Go.Proofs.Ytiidmiioegdfaaa
namespace Go.Proofs.Ytiidmiioegdfaaa.TallyMajorities
open Go.ChangeShapes Go.WideShapes Go.ChangeAt Go.RowKit

/-- What the two counts and the common one are behind i steps. -/
structure Cnt (p q b i : Int) : Prop where
  b0 : 0 ≤ b
  p0 : 0 ≤ p
  q0 : 0 ≤ q
  pi : p ≤ i
  qi : q ≤ i
  bi : b ≤ i
  sum : p + q ≤ i + b
theorem Cnt.next {p q b i x y : Int} (h : Cnt p q b i) (hx : x = 0 ∨ x = 1) (hy : y = 0 ∨ y = 1) : Cnt (p + x) (q + y) (b + x * y) (i + 1) := by
  obtain ⟨h1, h2, h3, h4, h5, h6, h7⟩ := h
  rcases hx with rfl | rfl <;> rcases hy with rfl | rfl <;> constructor <;> omega

set_option maxRecDepth 100000 in
set_option maxHeartbeats 4000000 in
theorem walk (n a b : Int) (w : World) (_hn : (Lit.int .i64 n).wf = true) (_ha : (Lit.int .i64 a).wf = true) (_hb : (Lit.int .i64 b).wf = true) :
    Calls Try.prog 4 #[.int .i64 n, .int .i64 a, .int .i64 b] w fun e w' => e = .returned (.bool true) ∧ Below w.heap.size w w' := by
  have HT := Lib.hid (fun u => told14_any u)
  obtain ⟨t, ht, eq⟩ := left_of n 5 (by decide) (by decide)
  obtain ⟨k, hk⟩ : ∃ k, k = t + 1 := ⟨_, rfl⟩
  obtain ⟨mm, hmm⟩ : ∃ mm : Int, mm = mostV k := ⟨_, rfl⟩
  have HM : Hid (∀ u, Calls Try.prog 12 #[.int .i64 (k : Int)] u fun e w' => e = .returned (.int .i64 mm) ∧ u = w') := fun u => tymost_r k u (by omega) hmm.symm
  have hm0 : mm = (k : Int) / 2 + 1 := by rw [hmm, mostV, if_neg (by omega)]
  have hm1 : (k : Int) < 2 * mm := by omega
  have hm2 : 2 * (mm - 1) ≤ (k : Int) := by omega
  have hm3 : 1 ≤ mm := by omega
  have hm4 : mm ≤ 3 := by omega
  have E1 : wrap64 (1 + wrap64 ((IntKind.u64.wrap n).tmod 5)) = (k : Int) := by
    have eq' : wrap64 ((IntKind.u64.wrap n).tmod 5) = (t : Int) := eq
    rw [eq', hk]
    exact (IntWalk.wrap64_in _ (by omega)).trans (by omega)
  have HE1 := Lib.hid E1
  have hk1 : 1 ≤ k := by omega
  have hk5 : k ≤ 5 := by omega
  clear _hn _ha _hb eq hk ht E1 hmm hm0
  go_enter Try.func4, Try.ntmps4
  go_wp2_with fail
  rw [HE1.out]
  go_loopw [8, 9, 10, 11] (fun s8 s9 s10 s11 wr => ∃ (p q c : Int) (i : Nat), s8 = .int .i64 p ∧ s9 = .int .i64 q ∧ s10 = .int .i64 c ∧ s11 = .int .i64 i ∧ i ≤ k ∧ Hid (Cnt p q c i) ∧ Hid (wr = w)) (fun _ _ _ s11 _ => k - (intOf s11).toNat)
  case atStart => exact ⟨0, 0, 0, 0, rfl, rfl, rfl, rfl, by omega, ⟨by omega, by omega, by omega, by simp, by simp, by simp, by simp⟩, rfl⟩
  case round =>
    obtain ⟨p, q, c, i, rfl, rfl, rfl, rfl, hik, HC, HW⟩ := hrel
    obtain rfl := HW.out
    by_cases hlt : i < k
    · obtain ⟨x, hx, hx01⟩ := bit_of a i
      obtain ⟨y, hy, hy01⟩ := bit_of b i
      have HN := Lib.hid (HC.out.next hx01 hy01)
      have hb := HC.out
      obtain ⟨b1, b2, b3, b4, b5, b6, b7⟩ := hb
      rcases hx01 with rfl | rfl <;> rcases hy01 with rfl | rfl
      all_goals
        go_wp2
        go_roundw
        case rel => exact ⟨_, _, _, i + 1, rfl, rfl, rfl, by go_num, by omega, by have := HN.out; simp at this ⊢; exact this, (trivial : True)⟩
        case measure => simp [intOf]; omega
    · obtain rfl : i = k := by omega
      go_wp2_with fail
      refine (HM.out _).mono ?_
      rintro e w1 ⟨rfl, rfl⟩
      go_wp2_with fail
      refine (HT.out _).mono ?_
      rintro e w2 ⟨rfl, B2⟩
      have C2 := Lib.hid B2
      obtain ⟨b1, b2, b3, b4, b5, b6, b7⟩ := HC.out
      clear B2
      by_cases g1 : p < mm
      · go_wp2
        go_returns
        exact ⟨by first | rfl | trivial, C2.out⟩
      · by_cases g2 : q < mm
        · go_wp2
          go_returns
          exact ⟨by first | rfl | trivial, C2.out⟩
        · have g3 : 0 < c := by omega
          go_wp2
          go_returns
          exact ⟨by first | rfl | trivial, C2.out⟩

set_option maxRecDepth 100000 in
theorem lifted (os : Os) (started : os.Started) (H : Type) (enc : TypeId × Value → H) :
    ReturnsInHanded {} Try.checked os 4 .any (Rows.tallyMajoritiesSpec.pre6 enc Try.prog Try.f4 Rows.tallyMajoritiesRow.domain false) (Rows.tallyMajoritiesSpec.post enc Try.prog Try.f4 false true false false) := by
  refine returnsInHanded_of_change (C := Try.checked) own started (by kernel_rfl) Try.func4
    (ChangeSpec.witness6 (enc := enc) (C := Try.checked) false ⟨#[], #[.int .i64 0, .int .i64 0, .int .i64 0], []⟩ 8 (by kernel_rfl) (by kernel_rfl) (by kernel_rfl) (by kernel_rfl)) ?_
  intro W base args ds gs before hval0 hW hcnd _
  have hval : ∀ (j : Nat) t v, Try.f4.params[j]? = some t → args[j]? = some v → Value.okWide Try.prog W .any base t v := hval0
  have hW' := hW
  obtain ⟨p, q, hA0, hV, rfl, hfz, hnd⟩ := hW
  have hA : DataW.TrodAll enc Try.prog W 0 (fun _ => true) true Try.f4.params.toList args.toList ds p := hA0
  rw [Try.params4] at hA hval
  obtain ⟨v0, vs0, d0, ds0, p0, q0, hargs, rfl, rfl, h0, r0⟩ := trodAll_cons hA
  obtain ⟨v1, vs1, d1, ds1, p1, q1, rfl, rfl, rfl, h1, r1⟩ := trodAll_cons r0
  obtain ⟨v2, vs2, d2, ds2, p2, q2, rfl, rfl, rfl, h2, r2⟩ := trodAll_cons r1
  obtain ⟨rfl, rfl, rfl⟩ := trodAll_nil r2
  obtain rfl : args = #[v0, v1, v2] := by cases args; simp_all
  obtain ⟨rfl, rfl⟩ := trodVars_none hV
  obtain ⟨a0, rfl, rfl, rfl, w0⟩ := open_int Try.underlying3 (hval 0 3 v0 rfl rfl) h0
  obtain ⟨a1, rfl, rfl, rfl, w1⟩ := open_int Try.underlying3 (hval 1 3 v1 rfl rfl) h1
  obtain ⟨a2, rfl, rfl, rfl, w2⟩ := open_int Try.underlying3 (hval 2 3 v2 rfl rfl) h2
  clear hA0 hval0
  refine (walk a0 a1 a2 W w0 w1 w2).mono fun e W' ⟨he, bel⟩ => ?_
  subst he
  exact ⟨_, rfl, _, _, _, [], _, [], hW', trodAll_mk1 (shut_bool Try.underlying4 _), (trodAll_cons_mk (shut_int Try.underlying3 w0) (trodAll_cons_mk (shut_int Try.underlying3 w1) (trodAll_cons_mk (shut_int Try.underlying3 w2) trodAll_mk0))), rfl, bel.frame _, fun h => by cases h⟩

theorem over : Rows.tallyMajoritiesRow.holds Try.pinned (OpenSpec.ofChange Rows.tallyMajoritiesSpec) :=
  OpenClaim.holds_of_wide 4 Try.f4 rfl rfl rfl rfl rfl rfl rfl ⟨rfl, rfl, rfl, rfl, rfl⟩ rfl rfl rfl rfl rfl (by kernel_rfl) Try.func4 (by kernel_rfl)
    (of_decide_eq_true (by kernel_rfl)) (by unfold Func.isWrapper; first | (rw [if_pos (by decide +kernel)]; kernel_rfl) | (rw [if_neg (by decide +kernel)]; exact ⟨rfl, rfl⟩))
    (fun os started H enc _ => lifted os started H enc)
end Go.Proofs.Ytiidmiioegdfaaa.TallyMajorities

namespace Go.Proofs.Ytiidmiioegdfaaa
theorem tallyMajorities_holds : Rows.TallyMajoritiesSaid := TallyMajorities.over
#print axioms tallyMajorities_holds
end Go.Proofs.Ytiidmiioegdfaaa
