/-
  PROVED: casebooklaw5.StoreSame answers true and leaves its arguments as they were, for any requests, any questions: the row's own reading and nothing else is assumed.
-/
import Derived.Test.YticokpaegadbbaaStoreL
import Derived.Test.YticokpaegadbbaaStoreM
import Derived.Deep.RegionWith
namespace Go.Proofs.Yticokpaegadbbaa.StoreSame
open Go.ChangeShapes Go.WideShapes Go.ChangeAt Go.RowKit

set_option maxRecDepth 100000 in
set_option maxHeartbeats 2000000 in
theorem many (ao : Option Addr) (n cap : Nat) (ao2 : Option Addr) (n2 cap2 : Nat) (R R2 : Bool) (w : World) (h : R = false ∨ 100 < n ∨ R2 = false) (HF : Hid (∀ u, Below w.heap.size w u → Calls Try.prog 12 #[.slice ao n cap] u fun e w' => e = .returned (.bool R) ∧ u = w'))
    (HF2 : Hid (∀ u, Below w.heap.size w u → Calls Try.prog 12 #[.slice ao2 n2 cap2] u fun e w' => e = .returned (.bool R2) ∧ u = w')) :
    Calls Try.prog 4 #[.slice ao n cap, .slice ao2 n2 cap2] w fun e w' => e = .returned (.bool true) ∧ Below w.heap.size w w' := by
  have H1 := Lib.hid (fun u => snew_r 7 (by decide) (by decide) u)
  have HT := Lib.hid (fun u => told5_any u)
  cases R
  case false =>
    clear h
    go_enter Try.func4, Try.ntmps4
    go_wp2_with fail
    refine (H1.out _).mono ?_
    rintro e w1 ⟨rfl, _, _, B1⟩
    have C1 := Lib.hid B1
    clear B1
    go_wp2_with fail
    refine (H1.out _).mono ?_
    rintro e w2 ⟨rfl, _, _, B2⟩
    have C2 := Lib.hid (C1.out.trans (B2.mono C1.out.size))
    clear B2
    go_wp2_with fail
    refine (HF.out _ C2.out).mono ?_
    rintro e w3 ⟨rfl, rfl⟩
    go_wp2_with fail
    refine (HT.out _).mono ?_
    rintro e w3 ⟨rfl, B3⟩
    have C3 := Lib.hid (C2.out.trans (B3.mono C2.out.size))
    clear B3
    go_wp2
    go_returns
    exact ⟨rfl, C3.out⟩
  case true =>
  by_cases h2 : 100 < n
  · clear h
    go_enter Try.func4, Try.ntmps4
    go_wp2_with fail
    refine (H1.out _).mono ?_
    rintro e w1 ⟨rfl, _, _, B1⟩
    have C1 := Lib.hid B1
    clear B1
    go_wp2_with fail
    refine (H1.out _).mono ?_
    rintro e w2 ⟨rfl, _, _, B2⟩
    have C2 := Lib.hid (C1.out.trans (B2.mono C1.out.size))
    clear B2
    go_wp2_with fail
    refine (HF.out _ C2.out).mono ?_
    rintro e w3 ⟨rfl, rfl⟩
    go_wp2_with fail
    refine (HT.out _).mono ?_
    rintro e w3 ⟨rfl, B3⟩
    have C3 := Lib.hid (C2.out.trans (B3.mono C2.out.size))
    clear B3
    go_wp2
    go_returns
    exact ⟨rfl, C3.out⟩
  · obtain rfl : R2 = false := by
      rcases h with h | h | h
      · cases h
      · exact absurd h h2
      · exact h
    have h3 : n ≤ 100 := by omega
    clear h h2
    go_enter Try.func4, Try.ntmps4
    go_wp2_with fail
    refine (H1.out _).mono ?_
    rintro e w1 ⟨rfl, _, _, B1⟩
    have C1 := Lib.hid B1
    clear B1
    go_wp2_with fail
    refine (H1.out _).mono ?_
    rintro e w2 ⟨rfl, _, _, B2⟩
    have C2 := Lib.hid (C1.out.trans (B2.mono C1.out.size))
    clear B2
    go_wp2_with fail
    refine (HF.out _ C2.out).mono ?_
    rintro e w3 ⟨rfl, rfl⟩
    go_wp2_with fail
    refine (HF2.out _ C2.out).mono ?_
    rintro e w3 ⟨rfl, rfl⟩
    go_wp2_with fail
    refine (HT.out _).mono ?_
    rintro e w3 ⟨rfl, B3⟩
    have C3 := Lib.hid (C2.out.trans (B3.mono C2.out.size))
    clear B3
    go_wp2
    go_returns
    exact ⟨rfl, C3.out⟩

set_option maxRecDepth 100000 in
set_option maxHeartbeats 4000000 in
theorem run (ao : Option Addr) (n cap : Nat) (L : List ReqV) (ao2 : Option Addr) (n2 cap2 : Nat) (L2 : List ReqV) (w : World) (hn : L.length = n) (h100 : n ≤ 100) (hs : ∀ q ∈ L, q.data.size ≤ 100) (HL : Hid (ReqsAt w ao L)) (hn2 : L2.length = n2) (_ : n2 ≤ 1000) (hs2 : ∀ q ∈ L2, q.data.size ≤ 100) (HL2 : Hid (ReqsAt w ao2 L2))
    (HF : Hid (∀ u, Below w.heap.size w u → Calls Try.prog 12 #[.slice ao n cap] u fun e w' => e = .returned (.bool true) ∧ u = w'))
    (HF2 : Hid (∀ u, Below w.heap.size w u → Calls Try.prog 12 #[.slice ao2 n2 cap2] u fun e w' => e = .returned (.bool true) ∧ u = w')) :
    Calls Try.prog 4 #[.slice ao n cap, .slice ao2 n2 cap2] w fun e w' => e = .returned (.bool true) ∧ Below w.heap.size w w' := by
  have H1 := Lib.hid (fun u => snew_r 7 (by decide) (by decide) u)
  have HT := Lib.hid (fun u => told5_any u)
  have HN := Lib.hid hn
  have HS := Lib.hid hs
  have HN2 := Lib.hid hn2
  have HS2 := Lib.hid hs2
  clear hn hs hn2 hs2
  go_enter Try.func4, Try.ntmps4
  go_wp2_with fail
  refine (H1.out _).mono ?_
  rintro e w1 ⟨rfl, S1, z1, B1⟩
  have C1 := Lib.hid B1
  have T1 := Lib.hid S1
  have Z1 := Lib.hid z1
  clear B1 S1 z1
  go_wp2_with fail
  refine (H1.out _).mono ?_
  rintro e w2 ⟨rfl, S2, _, B2⟩
  have C2 := Lib.hid (C1.out.trans (B2.mono C1.out.size))
  have T2 := Lib.hid S2
  have T1' := Lib.hid (T1.out.on B2)
  clear B2 S2
  go_wp2_with fail
  refine (HF.out _ C2.out).mono ?_
  rintro e w3 ⟨rfl, rfl⟩
  go_wp2_with fail
  refine (HF2.out _ C2.out).mono ?_
  rintro e w3 ⟨rfl, rfl⟩
  obtain ⟨bb, hbb⟩ : ∃ x, x = w1.heap.size := ⟨_, rfl⟩
  rw [← hbb] at T2 ⊢
  have hne : bb ≠ w.heap.size := by rw [hbb, Z1.out]; omega
  have hle : w.heap.size ≤ bb := by rw [hbb, Z1.out]; omega
  have hne' := hne.symm
  clear hbb Z1
  go_wp2
  go_loopw [9] (fun vi wr => ∃ (k : Nat) (s : StoV), k ≤ n ∧ vi = .int .i64 k ∧ Fit s k ∧ Sto layP wr w.heap.size s ∧ Sto layP wr bb s ∧ Below w.heap.size w wr) (fun vi _ => n - (intOf vi).toNat)
  case atStart => exact ⟨0, newV 7, by omega, rfl, Fit.new 7 (by decide) (by decide), T1'.out, T2.out, C2.out⟩
  case round =>
    obtain ⟨k, s, hk, rfl, hf, hsa, hsb, hbel⟩ := hrel
    have HFt := Lib.hid hf
    have HA := Lib.hid hsa
    have HBs := Lib.hid hsb
    have HB := Lib.hid hbel
    clear hf hsa hsb hbel T1 T1' T2
    by_cases hlt : k < n
    · have hkL : k < L.length := by rw [HN.out]; exact hlt
      obtain ⟨b, off, rfl, hb, hc⟩ := HL.out k hkL
      have FX := Lib.hid hc
      have hsz := HS.out _ (List.getElem_mem hkL)
      clear hc
      generalize L[k] = q at FX hsz
      obtain ⟨A, hA⟩ : ∃ A, putA s q = A := ⟨_, rfl⟩
      have i0 : (0 : Int) ≤ (k : Int) := by omega
      have i1 : (k : Int) < (n : Int) := by omega
      have hsm : q.data.size ≤ maxLen := by unfold maxLen; omega
      have HPut : Hid (∀ p u, Sto layP u p s → Calls Try.prog 14 #[.pointer (some ⟨p, 0, none⟩), .agg #[.int .i64 q.client, .int .i64 q.seq, .int .i64 q.kind, .int .i64 q.id, .int .i64 q.mtch, .string q.data]] u (PutR layP p A.s A.code A.ver A.data A.err u)) :=
        fun p u hu => sput_r p s A.s k q.client q.seq q.kind q.id q.mtch q.data A.code A.ver A.data A.err (show _ = _ from hA) hsm HFt.out (by omega) u hu
      have HFA : Hid (Fit A.s (k + 1)) := by have := HFt.out.put q; rw [hA] at this; exact this
      clear hkL hA
      obtain ⟨s', cc, vv, dd, x⟩ := A
      obtain ⟨cl, sq, kd, id, mt, dt⟩ := q
      simp only at hsz HPut HFA
      unfold ReqCells at FX
      simp only at FX
      clear hsm
      obtain ⟨f0, f1, f2, f3, f4, f5⟩ := FX.out wr HB.out
      go_wp2_with fail
      refine (HPut.out _ _ HA.out).mono ?_
      rintro e w3 ⟨a3, c3, rfl, _, B3, S3⟩
      have Cw3 : Below w.heap.size w w3 := B3.below HB.out (Nat.le_refl _) HB.out.size
      have al3 : Below w3.heap.size w3 (w3.alloc (.cells #[.int .i64 cc, .int .i64 vv, .string dd, .slice a3 0 c3] 34)) := (Below.refl _ _).alloc (Nat.le_refl _) _
      have Sa := Lib.hid (S3.on al3)
      have Sb := Lib.hid ((HBs.out.besides HA.out.noBool B3 hne).on al3)
      have Cw := Lib.hid (Cw3.trans (al3.mono Cw3.size))
      clear B3 S3 al3 Cw3 f0 f1 f2 f3 f4 f5
      by_cases hk2 : k < n2
      case' pos =>
        have hkL2 : k < L2.length := by rw [HN2.out]; exact hk2
        obtain ⟨b2, off2, rfl, hb2, hc2⟩ := HL2.out k hkL2
        have FX2 := Lib.hid hc2
        have hsz2 := HS2.out _ (List.getElem_mem hkL2)
        clear hc2
        generalize L2[k] = q2 at FX2 hsz2
        have hsm2 : q2.data.size ≤ maxLen := by unfold maxLen; omega
        have HAsk : Hid (∀ u, Sto layP u bb s → Calls Try.prog 17 #[.pointer (some ⟨bb, 0, none⟩), .agg #[.int .i64 q2.client, .int .i64 q2.seq, .int .i64 q2.kind, .int .i64 q2.id, .int .i64 q2.mtch, .string q2.data]] u fun e w' => (∃ v, e = .returned v) ∧ Below u.heap.size u w') :=
          fun u hu => (sask_r bb s k q2.client q2.seq q2.kind q2.id q2.mtch q2.data _ _ _ _ _ _ (show _ = _ from rfl) rfl hsm2 HFt.out u hu).mono fun e w' ⟨_, _, he, _, hb⟩ => ⟨⟨_, he⟩, hb⟩
        obtain ⟨cl2, sq2, kd2, id2, mt2, dt2⟩ := q2
        simp only at hsz2 HAsk
        unfold ReqCells at FX2
        simp only at FX2
        clear hsm2 hkL2
        have i2 : (k : Int) < (n2 : Int) := by omega
        obtain ⟨g0, g1, g2, g3, g4, g5⟩ := FX2.out _ Cw.out
        go_wp2_with fail
        refine (HAsk.out _ Sb.out).mono ?_
        rintro e w4 ⟨⟨v4, rfl⟩, B4⟩
        have Sa4 := Lib.hid (Sa.out.on B4)
        have Sb4 := Lib.hid (Sb.out.on B4)
        have Cw4 := Lib.hid (Cw.out.trans (B4.mono Cw.out.size))
        obtain ⟨f0, f1, f2, f3, f4, f5⟩ := FX.out _ Cw4.out
        clear B4 g0 g1 g2 g3 g4 g5 Sa Sb Cw
      case' neg =>
        have Sa4 := Sa
        have Sb4 := Sb
        have Cw4 := Cw
        obtain ⟨f0, f1, f2, f3, f4, f5⟩ := FX.out _ Cw4.out
        clear Sa Sb Cw
      all_goals
        go_wp2_with fail
        refine (HPut.out _ _ Sb4.out).mono ?_
        rintro e w5 ⟨a5, c5, rfl, _, B5, S5⟩
        have Cw5 : Below w.heap.size w w5 := B5.below Cw4.out hle Cw4.out.size
        have al5 : Below w5.heap.size w5 (w5.alloc (.cells #[.int .i64 cc, .int .i64 vv, .string dd, .slice a5 0 c5] 34)) := (Below.refl _ _).alloc (Nat.le_refl _) _
        have Sb6 := Lib.hid (S5.on al5)
        have Sa6 := Lib.hid ((Sa4.out.besides Sb4.out.noBool B5 hne').on al5)
        have Cw6 := Lib.hid (Cw5.trans (al5.mono Cw5.size))
        clear B5 S5 al5 Cw5 Sa4 Sb4 Cw4 f0 f1 f2 f3 f4 f5
        go_wp2
        go_roundw
        case rel => exact ⟨k + 1, s', by omega, by go_num, HFA.out, Sa6.out, Sb6.out, Cw6.out⟩
        case measure => simp [intOf]; omega
    · obtain rfl : k = n := by omega
      obtain ⟨S, hS⟩ : ∃ S, stoS s = S := ⟨_, rfl⟩
      have HBy : Hid (∀ p u, Sto layP u p s → Calls Try.prog 20 #[.pointer (some ⟨p, 0, none⟩)] u (BytesStr S u)) := fun p u hu => by rw [← hS]; exact sbytes_s p s k u hu HFt.out (by omega)
      have HLn : Hid (∀ p u, Sto layP u p s → Calls Try.prog 21 #[.pointer (some ⟨p, 0, none⟩)] u fun e w' => e = .returned (.int .i64 s.places) ∧ u = w') := fun p u hu => slen_r p s u hu
      have HX : Hid (∀ X u, Below wr.heap.size wr X → Below X.heap.size X u → Below wr.heap.size wr u) := fun X u hX hu => hX.trans (hu.mono hX.size)
      have HSa : Hid (∀ u, Below wr.heap.size wr u → Sto layP u w.heap.size s) := fun u hu => HA.out.on hu
      have HSb : Hid (∀ u, Below wr.heap.size wr u → Sto layP u bb s) := fun u hu => HBs.out.on hu
      clear hS
      go_wp2_with fail
      go_region_with (first
        | (go_at_call 11; refine (HT.out _).mono ?_; rintro e w3 ⟨rfl, B3⟩; have C3 := HX.out _ _ (by first | assumption | go_grown) B3)
        | (go_at_call 20; refine (HBy.out _ _ (by first | exact HSa.out _ (by first | assumption | go_grown) | exact HSb.out _ (by first | assumption | go_grown))).mono ?_; rintro e w3 ⟨ax, nx, cx, rfl, hkc, B3⟩; have C3 := HX.out _ _ (by first | assumption | go_grown) B3; have hkr := Below.refl w3.heap.size w3)
        | (go_at_call 21; refine (HLn.out _ _ (by first | exact HSa.out _ (by first | assumption | go_grown) | exact HSb.out _ (by first | assumption | go_grown))).mono ?_; rintro e w4 ⟨rfl, rfl⟩))
      all_goals
        go_wp2
        go_returns
        exact ⟨rfl, HB.out.trans (C3.mono HB.out.size)⟩

theorem walk (v : Value) (L : List ReqV) (v2 : Value) (L2 : List ReqV) (w : World) (hV : Reqs w w.heap.size v L) (hV2 : Reqs w w.heap.size v2 L2) :
    Calls Try.prog 4 #[v, v2] w fun e w' => e = .returned (.bool true) ∧ Below w.heap.size w w' := by
  have hV' := hV
  have hV2' := hV2
  obtain ⟨ao, cap, rfl, _⟩ := hV
  obtain ⟨ao2, cap2, rfl, _⟩ := hV2
  obtain ⟨hat, _, hml, hms⟩ := reqs_at hV'
  obtain ⟨hat2, _, hml2, hms2⟩ := reqs_at hV2'
  have HF : ∀ R, R = decide (fewR L) → Hid (∀ u, Below w.heap.size w u → Calls Try.prog 12 #[.slice ao L.length cap] u fun e w' => e = .returned (.bool R) ∧ u = w') :=
    fun R hR u hu => few5_r ao _ cap L u rfl (reqs_on hV' hu) R hR
  have HF2 : ∀ R, R = decide (fewR L2) → Hid (∀ u, Below w.heap.size w u → Calls Try.prog 12 #[.slice ao2 L2.length cap2] u fun e w' => e = .returned (.bool R) ∧ u = w') :=
    fun R hR u hu => few5_r ao2 _ cap2 L2 u rfl (reqs_on hV2' hu) R hR
  by_cases hf : fewR L
  · have h1 := HF true (decide_eq_true hf).symm
    by_cases h100 : L.length ≤ 100
    · by_cases hf2 : fewR L2
      · exact run ao _ cap L ao2 _ cap2 L2 w rfl h100 hf.1 hat rfl (by have := hf2.2; omega) hf2.1 hat2 h1 (HF2 true (decide_eq_true hf2).symm)
      · exact many ao _ cap ao2 _ cap2 true false w (.inr (.inr rfl)) h1 (HF2 false (decide_eq_false hf2).symm)
    · exact many ao _ cap ao2 _ cap2 true _ w (.inr (.inl (by omega))) h1 (HF2 _ rfl)
  · exact many ao _ cap ao2 _ cap2 false _ w (.inl rfl) (HF false (decide_eq_false hf).symm) (HF2 _ rfl)

set_option maxRecDepth 100000 in
theorem lifted (os : Os) (started : os.Started) (H : Type) (enc : TypeId × Value → H) :
    ReturnsInHanded {} Try.checked os 4 .any (Rows.storeSameSpec.pre6 enc Try.prog Try.f4 Rows.storeSameRow.domain false) (Rows.storeSameSpec.post enc Try.prog Try.f4 false true false false) := by
  refine returnsInHanded_of_change (C := Try.checked) own started (by kernel_rfl) Try.func4
    (ChangeSpec.witness6 (enc := enc) (C := Try.checked) false ⟨#[], #[.slice none 0 0, .slice none 0 0], []⟩ 8 (by kernel_rfl) (by kernel_rfl) (by kernel_rfl) (by kernel_rfl)) ?_
  intro W base args ds gs before hval0 hW hcnd _
  have hval : ∀ (j : Nat) t v, Try.f4.params[j]? = some t → args[j]? = some v → Value.okWide Try.prog W .any base t v := hval0
  have hW' := hW
  obtain ⟨p, q, hA0, hV, rfl, hfz, hnd⟩ := hW
  have hA : DataW.TrodAll enc Try.prog W 0 (fun _ => true) true Try.f4.params.toList args.toList ds p := hA0
  rw [Try.params4] at hA hval
  obtain ⟨v0, vs0, d0, ds0, p0, q0, hargs, rfl, rfl, h0, r0⟩ := trodAll_cons hA
  obtain ⟨v1, vs1, d1, ds1, p1, q1, rfl, rfl, rfl, h1, r1⟩ := trodAll_cons r0
  obtain ⟨rfl, rfl, rfl⟩ := trodAll_nil r1
  obtain rfl : args = #[v0, v1] := by cases args; simp_all
  obtain ⟨rfl, rfl⟩ := trodVars_none hV
  obtain ⟨a0, len0, cap0, rfl⟩ := okWide_slice Try.underlying22 (hval 0 22 v0 rfl rfl)
  have k0 := h0
  have lt0 : ∀ x ∈ p0, x.block < W.heap.size := by obtain ⟨m, hm⟩ := k0; exact DataW.trod_lt m _ _ _ hm
  obtain ⟨l0, w0⟩ := reqs_open h0
  obtain ⟨a1, len1, cap1, rfl⟩ := okWide_slice Try.underlying22 (hval 1 22 v1 rfl rfl)
  have k1 := h1
  have lt1 : ∀ x ∈ p1, x.block < W.heap.size := by obtain ⟨m, hm⟩ := k1; exact DataW.trod_lt m _ _ _ hm
  obtain ⟨l1, w1⟩ := reqs_open h1
  clear hA0 hval0
  refine (walk (.slice a0 len0 cap0) l0 (.slice a1 len1 cap1) l1 W w0 w1).mono fun e W' ⟨he, bel⟩ => ?_
  subst he
  exact ⟨_, rfl, _, _, _, [], _, [], hW', trodAll_mk1 (shut_bool Try.underlying4 _), (trodAll_cons_mk (Below.trod laidOut (by kernel_rfl) (of_decide_eq_true (by kernel_rfl)) k0 bel lt0) (trodAll_cons_mk (Below.trod laidOut (by kernel_rfl) (of_decide_eq_true (by kernel_rfl)) k1 bel lt1) trodAll_mk0)), rfl, bel.frame _, fun h => by cases h⟩

theorem over : Rows.storeSameRow.holds Try.pinned (OpenSpec.ofChange Rows.storeSameSpec) :=
  OpenClaim.holds_of_wide 4 Try.f4 rfl rfl rfl rfl rfl rfl rfl ⟨rfl, rfl, rfl, rfl, rfl⟩ rfl rfl rfl rfl rfl (by kernel_rfl) Try.func4 (by kernel_rfl)
    (of_decide_eq_true (by kernel_rfl)) (by unfold Func.isWrapper; first | (rw [if_pos (by decide +kernel)]; kernel_rfl) | (rw [if_neg (by decide +kernel)]; exact ⟨rfl, rfl⟩))
    (fun os started H enc _ => lifted os started H enc)
end Go.Proofs.Yticokpaegadbbaa.StoreSame

namespace Go.Proofs.Yticokpaegadbbaa
theorem storeSame_holds : Rows.StoreSameSaid := StoreSame.over
#print axioms storeSame_holds
end Go.Proofs.Yticokpaegadbbaa
