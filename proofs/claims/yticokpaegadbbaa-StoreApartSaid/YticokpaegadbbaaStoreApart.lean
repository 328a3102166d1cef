/-
  PROVED: casebooklaw5.StoreApart answers true and leaves its arguments as they were, for any requests, any resource: the row's own reading and nothing else is assumed.
-/
import Derived.Test.YticokpaegadbbaaStoreF
import Derived.Test.YticokpaegadbbaaChartK
import Derived.Test.YticokpaegadbbaaChartE
namespace Go.Proofs.Yticokpaegadbbaa.StoreApart
open Go.ChangeShapes Go.WideShapes Go.ChangeAt Go.RowKit

theorem modn (p : Int) (m : Int) (hm : 0 < m) : ∃ k : Nat, (k : Int) < m ∧ (IntKind.u64.wrap p).tmod m = (k : Int) := by
  have hu : 0 ≤ IntKind.u64.wrap p := by simp [IntKind.wrap, IntKind.bits, IntKind.signed]; omega
  have h0 := Int.emod_nonneg (IntKind.u64.wrap p) (by omega : m ≠ 0)
  have h1 := Int.emod_lt_of_pos (IntKind.u64.wrap p) hm
  refine ⟨((IntKind.u64.wrap p).tmod m).toNat, ?_, ?_⟩
  · rw [Int.tmod_eq_emod_of_nonneg hu]; omega
  · rw [Int.tmod_eq_emod_of_nonneg hu]; omega

set_option maxRecDepth 100000 in
set_option maxHeartbeats 2000000 in
theorem many (ao : Option Addr) (n cap : Nat) (id : Int) (R : Bool) (w : World) (h : R = false ∨ 100 < n) (HF : Hid (∀ u, Below w.heap.size w u → Calls Try.prog 12 #[.slice ao n cap] u fun e w' => e = .returned (.bool R) ∧ u = w')) :
    Calls Try.prog 6 #[.slice ao n cap, .int .i64 id] w fun e w' => e = .returned (.bool true) ∧ Below w.heap.size w w' := by
  have H1 := Lib.hid (fun u => snew_r 9 (by decide) (by decide) u)
  have HT := Lib.hid (fun u => told5_any u)
  rcases (show R = false ∨ (R = true ∧ 100 < n) by cases R <;> simp_all) with rfl | ⟨rfl, h2⟩
  all_goals
    clear h
    go_enter Try.func6, Try.ntmps6
    go_wp2_with fail
    refine (H1.out _).mono ?_
    rintro e w1 ⟨rfl, _, _, B1⟩
    have C1 := Lib.hid B1
    clear B1
    go_wp2_with fail
    refine (HF.out _ C1.out).mono ?_
    rintro e w2 ⟨rfl, rfl⟩
    go_wp2_with fail
    refine (HT.out _).mono ?_
    rintro e w2 ⟨rfl, B2⟩
    have C2 := Lib.hid (C1.out.trans (B2.mono C1.out.size))
    clear B2
    go_wp2
    go_returns
    exact ⟨rfl, C2.out⟩

set_option maxRecDepth 100000 in
set_option maxHeartbeats 4000000 in
theorem run (ao : Option Addr) (n cap : Nat) (L : List ReqV) (ida : Int) (kk : Nat) (w : World) (hn : L.length = n) (h100 : n ≤ 100) (hs : ∀ q ∈ L, q.data.size ≤ 100) (HL : Hid (ReqsAt w ao L)) (hkk : kk < 32) (hid : (IntKind.u64.wrap ida).tmod 32 = (kk : Int))
    (HF : Hid (∀ u, Below w.heap.size w u → Calls Try.prog 12 #[.slice ao n cap] u fun e w' => e = .returned (.bool true) ∧ u = w')) :
    Calls Try.prog 6 #[.slice ao n cap, .int .i64 ida] w fun e w' => e = .returned (.bool true) ∧ Below w.heap.size w w' := by
  have H1 := Lib.hid (fun u => snew_r 9 (by decide) (by decide) u)
  have HT := Lib.hid (fun u => told5_any u)
  have HN := Lib.hid hn
  have HS := Lib.hid hs
  have kp : (0 : Int) ≤ (kk : Int) := by omega
  have k32 : (kk : Int) < 32 := by omega
  clear hn hs
  go_enter Try.func6, Try.ntmps6
  go_wp2_with fail
  refine (H1.out _).mono ?_
  rintro e w1 ⟨rfl, S1, _, B1⟩
  have C1 := Lib.hid B1
  have T1 := Lib.hid S1
  clear B1 S1
  go_wp2_with fail
  refine (HF.out _ C1.out).mono ?_
  rintro e w2 ⟨rfl, rfl⟩
  go_wp2
  go_loopw [8, 9] (fun vo vi wr => ∃ (k : Nat) (s : StoV) (a1 : Option Addr) (n1 c1 : Nat), k ≤ n ∧ vi = .int .i64 k ∧ vo = .slice a1 n1 c1 ∧ s.quota = 9 ∧ Fit s k ∧ Sto layP wr w.heap.size s ∧ Vers wr wr.heap.size (.slice a1 n1 c1) (s.res kk) ∧ Below w.heap.size w wr) (fun _ vi _ => n - (intOf vi).toNat)
  case atStart => exact ⟨0, newV 9, none, 0, 0, by omega, rfl, rfl, rfl, Fit.new 9 (by decide) (by decide), T1.out, Vers.none _ _, C1.out⟩
  case round =>
    obtain ⟨k, s, a1, n1, c1, hk, rfl, rfl, hqu, hf, hst, hve, hbel⟩ := hrel
    have HQ := Lib.hid hqu
    have HFt := Lib.hid hf
    have HSt := Lib.hid hst
    have HVe := Lib.hid hve
    have HB := Lib.hid hbel
    have hlt0 := hst.lt
    clear hqu hf hst hve hbel T1
    by_cases hlt : k < n
    · have hkL : k < L.length := by rw [HN.out]; exact hlt
      obtain ⟨b, off, rfl, hb, hc⟩ := HL.out k hkL
      have FX := Lib.hid hc
      have hsz := HS.out _ (List.getElem_mem hkL)
      clear hc
      generalize L[k] = q at FX hsz
      obtain ⟨A, hA⟩ : ∃ A, putA s q = A := ⟨_, rfl⟩
      have HA := Lib.hid hA
      have i0 : (0 : Int) ≤ (k : Int) := by omega
      have i1 : (k : Int) < (n : Int) := by omega
      have hsm : q.data.size ≤ maxLen := by unfold maxLen; omega
      have HPut : Hid (∀ u, Sto layP u w.heap.size s → Calls Try.prog 14 #[.pointer (some ⟨w.heap.size, 0, none⟩), .agg #[.int .i64 q.client, .int .i64 q.seq, .int .i64 q.kind, .int .i64 q.id, .int .i64 q.mtch, .string q.data]] u (PutR layP w.heap.size A.s A.code A.ver A.data A.err u)) :=
        fun u hu => sput_r w.heap.size s A.s k q.client q.seq q.kind q.id q.mtch q.data A.code A.ver A.data A.err (show _ = _ from hA) hsm HFt.out (by omega) u hu
      have HFA : Hid (Fit A.s (k + 1)) := by have := HFt.out.put q; rw [hA] at this; exact this
      have HQA : Hid (A.s.quota = 9) := by
        show _ = _
        rw [← HQ.out, ← hA]
        exact putA_quota s q
      clear hkL hA hsm
      obtain ⟨cl, sq, kd, id, mt, dt⟩ := q
      simp only at hsz HPut
      unfold ReqCells at FX
      simp only at FX
      obtain ⟨f0, f1, f2, f3, f4, f5⟩ := FX.out wr HB.out
      -- what the request makes of the resource
      by_cases hdo : A.err = 0 ∧ id = kk
      · obtain ⟨herr, rfl⟩ := hdo
        obtain ⟨hp, ho⟩ := putA_err s ⟨cl, sq, kd, kk, mt, dt⟩ (by rw [HA.out]; exact herr)
        have hds := putA_done s ⟨cl, sq, kd, kk, mt, dt⟩ hp ho
        rw [HA.out] at hds
        simp only [Int.toNat_natCast] at hds
        have hwr : wrV kd = true := by
          have h1 := hp.1
          unfold ReqV.may at h1
          simp only at h1
          have h2 := hp.2
          simp only at h2
          unfold wrV; simp only [Bool.or_eq_true, beq_iff_eq]; omega
        obtain ⟨L', hL'⟩ : ∃ L', A.s.res kk = L' := ⟨_, rfl⟩
        have hdoL : doL (s.res kk) kd mt dt 9 = L' := by
          rw [← hL', hds, ← HQ.out]
          exact (updF_same _ _ _).symm
        have hdoR : doR (s.res kk) kd mt 9 = ⟨A.code, A.ver, A.data, []⟩ := by
          rw [hds, ← HQ.out]
          show _ = RepV.mk _ _ _ _
          rw [← doR_list (s.res kk) kd mt s.quota hwr]
        obtain ⟨m', hm'⟩ : ∃ m', L'.length = m' := ⟨_, rfl⟩
        have hlen : (s.res kk).length ≤ 1000000 := by have := (HFt.out.res kk hkk).1; omega
        have HE : Hid (∀ u v, Vers u u.heap.size v (s.res kk) → Calls Try.prog 24 #[v, .agg #[.int .i64 cl, .int .i64 sq, .int .i64 kd, .int .i64 kk, .int .i64 mt, .string dt], .int .i64 9] u (DoesN L' m' [] 0 A.code A.ver A.data u)) :=
          fun u v hv => (refdo_r v (s.res kk) L' _ cl sq kd kk mt dt _ A.code A.ver A.data [] hdoL hdoR u hv (Nat.le_refl _) hlen).mono fun _ _ h => h.n hm' rfl
        have HL' := Lib.hid hL'
        have HM' := Lib.hid hm'
        rw [herr] at HPut
        clear hp ho hds hwr hL' hdoL hdoR hm' hlen herr HA
        generalize A.code = cc at HPut HE
        generalize A.ver = vv at HPut HE
        generalize A.data = dd at HPut HE
        go_wp2_with fail
        refine (HPut.out _ HSt.out).mono ?_
        rintro e w3 ⟨a3, c3, rfl, n3, B3, S3⟩
        have Cw3 : Below w.heap.size w w3 := B3.below HB.out (Nat.le_refl _) HB.out.size
        have al3 : Below w3.heap.size w3 (w3.alloc (.cells #[.int .i64 cc, .int .i64 vv, .string dd, .slice a3 0 c3] 34)) := (Below.refl _ _).alloc (Nat.le_refl _) _
        have V3 := Lib.hid (((HVe.out.besides (Nat.le_refl _) HSt.out.noBool B3).mono B3.size).on al3)
        have Sw3 := Lib.hid (S3.on al3)
        have Cw4 := Lib.hid (Cw3.trans (al3.mono Cw3.size))
        have R3 := Lib.hid (RepAt.new w3 cc vv dd (.slice a3 0 c3))
        have N3 := Lib.hid n3
        clear B3 S3 al3 Cw3 n3 f0 f1 f2 f3 f4 f5
        obtain ⟨f0, f1, f2, f3, f4, f5⟩ := FX.out _ Cw4.out
        go_wp2_with fail
        refine (HE.out _ _ V3.out).mono ?_
        rintro e w4 ⟨x4, k4, o4, p4, rfl, V4, I4, B4⟩
        have al4 : Below w4.heap.size w4 (w4.alloc (.cells #[.int .i64 cc, .int .i64 vv, .string dd, .slice o4 0 p4] 34)) := (Below.refl _ _).alloc (Nat.le_refl _) _
        have R4 := R3.out.keep B4 R3.out.lt
        have Sw5 := Lib.hid ((Sw3.out.on B4).on al4)
        have V5 := Lib.hid (V4.on al4)
        have Cw5 : Hid (Below w.heap.size w (w4.alloc (.cells #[.int .i64 cc, .int .i64 vv, .string dd, .slice o4 0 p4] 34))) := (Cw4.out.trans (B4.mono Cw4.out.size)).trans (al4.mono (Nat.le_trans Cw4.out.size B4.size))
        have R5 := R4.keep al4 R4.lt
        have N4 := Nil0.of I4
        have HSm := Lib.hid (fun u => same_nil0 cc vv dd (.slice a3 0 c3) (.slice o4 0 p4) N3.out N4 u)
        obtain ⟨⟨x0, x1, x2, x3⟩, _⟩ := R5.cells
        obtain ⟨⟨y0, y1, y2, y3⟩, _⟩ := (RepAt.new w4 cc vv dd (.slice o4 0 p4)).cells
        have lr := R4.lt
        clear V4 I4 B4 al4 R4 R5 N4 f0 f1 f2 f3 f4 f5 Sw3 V3 Cw4 R3
        go_wp2_with fail
        refine (HSm.out _).mono ?_
        rintro e w6 ⟨rfl, B6⟩
        have Sw6 := Lib.hid (Sw5.out.on B6)
        have V6 := Lib.hid (V5.out.on B6)
        have Cw6 := Lib.hid (Cw5.out.trans (B6.mono Cw5.out.size))
        clear B6 x0 x1 x2 x3 y0 y1 y2 y3 lr Sw5 V5 Cw5
        go_wp2
        go_roundw
        case rel => exact ⟨k + 1, A.s, x4, m', k4, by omega, by go_num, rfl, HQA.out, HFA.out, Sw6.out, by rw [HL'.out]; exact V6.out, Cw6.out⟩
        case measure => simp [intOf]; omega
      · have hres : A.s.res kk = s.res kk := by
          by_cases herr : A.err = 0
          · have hne : id ≠ kk := fun h => hdo ⟨herr, h⟩
            obtain ⟨hp, ho⟩ := putA_err s ⟨cl, sq, kd, id, mt, dt⟩ (by rw [HA.out]; exact herr)
            have hds := putA_done s ⟨cl, sq, kd, id, mt, dt⟩ hp ho
            rw [HA.out] at hds
            have hm := hp.1
            unfold ReqV.may at hm
            simp only at hm
            rw [hds]
            exact updF_other _ _ _ _ (by simp only; omega)
          · have hre := putA_refused s ⟨cl, sq, kd, id, mt, dt⟩ (by rw [HA.out]; exact herr)
            rw [HA.out] at hre
            rw [congrArg PutA.s hre]
        have HRs := Lib.hid hres
        have htest : (A.err != 0) = true ∨ ((A.err != 0) = false ∧ A.err = 0 ∧ (id != (kk : Int)) = true) := by
          by_cases herr : A.err = 0
          · exact .inr ⟨by rw [herr]; rfl, herr, bne_iff_ne.2 fun h => hdo ⟨herr, h⟩⟩
          · exact .inl (bne_iff_ne.2 herr)
        clear hdo hres HA
        generalize A.code = cc at HPut
        generalize A.ver = vv at HPut
        generalize A.data = dd at HPut
        generalize A.err = x at HPut htest
        rcases htest with e1 | ⟨_, rfl, e2⟩
        all_goals
          go_wp2_with fail
          refine (HPut.out _ HSt.out).mono ?_
          rintro e w3 ⟨a3, c3, rfl, _, B3, S3⟩
          have Cw3 : Below w.heap.size w w3 := B3.below HB.out (Nat.le_refl _) HB.out.size
          have al3 : Below w3.heap.size w3 (w3.alloc (.cells #[.int .i64 cc, .int .i64 vv, .string dd, .slice a3 0 c3] 34)) := (Below.refl _ _).alloc (Nat.le_refl _) _
          have V3 := Lib.hid (((HVe.out.besides (Nat.le_refl _) HSt.out.noBool B3).mono B3.size).on al3)
          have Sw3 := Lib.hid (S3.on al3)
          have Cw4 := Lib.hid (Cw3.trans (al3.mono Cw3.size))
          clear B3 S3 al3 Cw3 f0 f1 f2 f3 f4 f5
          obtain ⟨f0, f1, f2, f3, f4, f5⟩ := FX.out _ Cw4.out
          go_wp2
          go_roundw
          case rel => exact ⟨k + 1, A.s, a1, n1, c1, by omega, by go_num, rfl, HQA.out, HFA.out, Sw3.out, by rw [HRs.out]; exact V3.out, Cw4.out⟩
          case measure => simp [intOf]; omega
    · obtain rfl : k = n := by omega
      have hlen : (s.res kk).length ≤ 100 := (HFt.out.res kk hkk).1
      have hrv : resV s kk = s.res kk := by rw [resV, if_pos ⟨kp, k32⟩]; rfl
      have HVs : Hid (∀ u, Below wr.heap.size wr u → Calls Try.prog 26 #[.pointer (some ⟨w.heap.size, 0, none⟩), .int .i64 kk] u fun e w' => ∃ a m c, e = .returned (.slice a m c) ∧ Vers w' w'.heap.size (.slice a m c) (s.res kk) ∧ Below u.heap.size u w') := fun u hu => by
        refine (sversions_r w.heap.size kk s u (HSt.out.on hu) (by rw [hrv]; omega)).mono fun e w' ⟨v', he, ho, hb⟩ => ?_
        have h1 := vers_own ho (Nat.le_refl _)
        obtain ⟨a, c, rfl⟩ := own_shape ho
        rw [hrv] at h1 he
        exact ⟨a, _, c, he, h1, hb⟩
      have HVV : Hid (∀ v1 v2 u, Vers u u.heap.size v1 (s.res kk) → Vers u u.heap.size v2 (s.res kk) → Calls Try.prog 25 #[v1, v2] u fun e w' => e = .returned (.bool true) ∧ Below u.heap.size u w') := by
        intro v1 v2 u h1 h2
        have h := versions_any v1 v2 (s.res kk) (s.res kk) _ u h1 h2 (Nat.le_refl _) (by omega)
        rwa [decide_eq_true rfl] at h
      clear hlen hrv
      go_wp2_with fail
      refine (HT.out _).mono ?_
      rintro e w2 ⟨rfl, B2⟩
      have C2 := Lib.hid B2
      clear B2
      go_wp2_with fail
      refine (HVs.out _ C2.out).mono ?_
      rintro e w3 ⟨a3, m3, c3, rfl, V3, B3⟩
      have C3 := Lib.hid (C2.out.trans (B3.mono C2.out.size))
      have HV3 := Lib.hid V3
      have HO3 := Lib.hid (HVe.out.on C3.out)
      clear B3 V3
      go_wp2_with fail
      refine (HVV.out _ _ _ HV3.out HO3.out).mono ?_
      rintro e w4 ⟨rfl, B4⟩
      have C4 := Lib.hid (C3.out.trans (B4.mono C3.out.size))
      clear B4
      go_wp2
      go_returns
      exact ⟨rfl, HB.out.trans (C4.out.mono HB.out.size)⟩

theorem walk (v : Value) (L : List ReqV) (ida : Int) (w : World) (hV : Reqs w w.heap.size v L) (_ : (Lit.int .i64 ida).wf = true) :
    Calls Try.prog 6 #[v, .int .i64 ida] w fun e w' => e = .returned (.bool true) ∧ Below w.heap.size w w' := by
  have hV' := hV
  obtain ⟨ao, cap, rfl, _⟩ := hV
  obtain ⟨hat, _, hml, hms⟩ := reqs_at hV'
  obtain ⟨kk, hkk, hid⟩ := modn ida 32 (by decide)
  have HF : ∀ R, R = decide (fewR L) → Hid (∀ u, Below w.heap.size w u → Calls Try.prog 12 #[.slice ao L.length cap] u fun e w' => e = .returned (.bool R) ∧ u = w') :=
    fun R hR u hu => few5_r ao _ cap L u rfl (reqs_on hV' hu) R hR
  by_cases hf : fewR L
  · have h1 := HF true (decide_eq_true hf).symm
    by_cases h100 : L.length ≤ 100
    · exact run ao _ cap L ida kk w rfl h100 hf.1 hat (by omega) hid h1
    · exact many ao _ cap ida true w (.inr (by omega)) h1
  · exact many ao _ cap ida false w (.inl rfl) (HF false (decide_eq_false hf).symm)

set_option maxRecDepth 100000 in
theorem lifted (os : Os) (started : os.Started) (H : Type) (enc : TypeId × Value → H) :
    ReturnsInHanded {} Try.checked os 6 .any (Rows.storeApartSpec.pre6 enc Try.prog Try.f6 Rows.storeApartRow.domain false) (Rows.storeApartSpec.post enc Try.prog Try.f6 false true false false) := by
  refine returnsInHanded_of_change (C := Try.checked) own started (by kernel_rfl) Try.func6
    (ChangeSpec.witness6 (enc := enc) (C := Try.checked) false ⟨#[], #[.slice none 0 0, .int .i64 0], []⟩ 8 (by kernel_rfl) (by kernel_rfl) (by kernel_rfl) (by kernel_rfl)) ?_
  intro W base args ds gs before hval0 hW hcnd _
  have hval : ∀ (j : Nat) t v, Try.f6.params[j]? = some t → args[j]? = some v → Value.okWide Try.prog W .any base t v := hval0
  have hW' := hW
  obtain ⟨p, q, hA0, hV, rfl, hfz, hnd⟩ := hW
  have hA : DataW.TrodAll enc Try.prog W 0 (fun _ => true) true Try.f6.params.toList args.toList ds p := hA0
  rw [Try.params6] at hA hval
  obtain ⟨v0, vs0, d0, ds0, p0, q0, hargs, rfl, rfl, h0, r0⟩ := trodAll_cons hA
  obtain ⟨v1, vs1, d1, ds1, p1, q1, rfl, rfl, rfl, h1, r1⟩ := trodAll_cons r0
  obtain ⟨rfl, rfl, rfl⟩ := trodAll_nil r1
  obtain rfl : args = #[v0, v1] := by cases args; simp_all
  obtain ⟨rfl, rfl⟩ := trodVars_none hV
  obtain ⟨a0, len0, cap0, rfl⟩ := okWide_slice Try.underlying22 (hval 0 22 v0 rfl rfl)
  have k0 := h0
  have lt0 : ∀ x ∈ p0, x.block < W.heap.size := by obtain ⟨m, hm⟩ := k0; exact DataW.trod_lt m _ _ _ hm
  obtain ⟨l0, w0⟩ := reqs_open h0
  obtain ⟨a1, rfl, rfl, rfl, w1⟩ := open_int Try.underlying3 (hval 1 3 v1 rfl rfl) h1
  clear hA0 hval0
  refine (walk (.slice a0 len0 cap0) l0 a1 W w0 w1).mono fun e W' ⟨he, bel⟩ => ?_
  subst he
  exact ⟨_, rfl, _, _, _, [], _, [], hW', trodAll_mk1 (shut_bool Try.underlying4 _), (trodAll_cons_mk (Below.trod laidOut (by kernel_rfl) (of_decide_eq_true (by kernel_rfl)) k0 bel lt0) (trodAll_cons_mk (shut_int Try.underlying3 w1) trodAll_mk0)), rfl, bel.frame _, fun h => by cases h⟩

theorem over : Rows.storeApartRow.holds Try.pinned (OpenSpec.ofChange Rows.storeApartSpec) :=
  OpenClaim.holds_of_wide 6 Try.f6 rfl rfl rfl rfl rfl rfl rfl ⟨rfl, rfl, rfl, rfl, rfl⟩ rfl rfl rfl rfl rfl (by kernel_rfl) Try.func6 (by kernel_rfl)
    (of_decide_eq_true (by kernel_rfl)) (by unfold Func.isWrapper; first | (rw [if_pos (by decide +kernel)]; kernel_rfl) | (rw [if_neg (by decide +kernel)]; exact ⟨rfl, rfl⟩))
    (fun os started H enc _ => lifted os started H enc)
end Go.Proofs.Yticokpaegadbbaa.StoreApart

namespace Go.Proofs.Yticokpaegadbbaa
theorem storeApart_holds : Rows.StoreApartSaid := StoreApart.over
#print axioms storeApart_holds
end Go.Proofs.Yticokpaegadbbaa
