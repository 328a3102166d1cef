/-
  PROVED: casebooklaw4.ChartRuns answers true and leaves its arguments as they were, for any requests, any quota: the row's own reading and nothing else is assumed.
-/
import Derived.Test.YtichojlijhnlpaaChartArgs
import Derived.Test.YtichojlijhnlpaaChartK
import Derived.Test.YtichojlijhnlpaaChartE
namespace Go.Proofs.Ytichojlijhnlpaa.ChartRuns
open Go.ChangeShapes Go.WideShapes Go.ChangeAt Go.RowKit

theorem modn (p : Int) (m : Int) (hm : 0 < m) : ∃ k : Nat, (k : Int) < m ∧ (IntKind.u64.wrap p).tmod m = (k : Int) := by
  have hu : 0 ≤ IntKind.u64.wrap p := by simp [IntKind.wrap, IntKind.bits, IntKind.signed]; omega
  have h0 := Int.emod_nonneg (IntKind.u64.wrap p) (by omega : m ≠ 0)
  have h1 := Int.emod_lt_of_pos (IntKind.u64.wrap p) hm
  refine ⟨((IntKind.u64.wrap p).tmod m).toNat, ?_, ?_⟩
  · rw [Int.tmod_eq_emod_of_nonneg hu]; omega
  · rw [Int.tmod_eq_emod_of_nonneg hu]; omega

theorem askV_len (L : List VerV) (kd mt : Int) : (askV L kd mt).list.length ≤ L.length := by
  unfold askV
  split
  · rw [rdV_list]; exact Nat.zero_le _
  split
  · rw [rdV_list]; exact Nat.zero_le _
  split
  · unfold histV
    split
    · exact Nat.zero_le _
    · show (signs L L.length).length ≤ _; rw [signs_length]; exact Nat.le_refl _
  · exact Nat.zero_le _
theorem doR_len (L : List VerV) (kd mt quota : Int) : (doR L kd mt quota).list.length ≤ L.length := by
  unfold doR
  split
  · split <;> exact Nat.zero_le _
  · exact askV_len L kd mt
theorem doL_quota (L : List VerV) (kd mt : Int) (dt : ByteArray) (q : Int) (h : (L.length : Int) ≤ q) : ((doL L kd mt dt q).length : Int) ≤ q := by
  unfold doL
  split
  · rename_i hv
    have : (L.length : Int) < q := by
      have h2 := hv.2
      unfold verdV at h2
      split at h2
      · omega
      split at h2
      · rename_i h3; exact absurd h2 h3.2
      split at h2
      · omega
      split at h2
      · omega
      · omega
    rw [List.length_append]
    simp
    omega
  · exact h

set_option maxRecDepth 100000 in
set_option maxHeartbeats 1000000 in
theorem many (ao : Option Addr) (n cap : Nat) (quota : Int) (w : World) (h : 60 < n) :
    Calls Try.prog 7 #[.slice ao n cap, .int .i64 quota] w fun e w' => e = .returned (.bool true) ∧ Below w.heap.size w w' := by
  have HT := Lib.hid (fun u => told4_any u)
  go_enter Try.func7, Try.ntmps7
  go_wp2_with fail
  refine (HT.out _).mono ?_
  rintro e w2 ⟨rfl, B2⟩
  have C2 := Lib.hid B2
  clear B2
  go_wp2
  go_returns
  exact ⟨rfl, C2.out⟩

set_option maxRecDepth 100000 in
set_option maxHeartbeats 4000000 in
theorem run (ao : Option Addr) (n cap : Nat) (L : List ReqV) (quota : Int) (k : Nat) (w : World) (hn : L.length = n) (h60 : n ≤ 60) (hk : k < 100) (hq : (IntKind.u64.wrap quota).tmod 100 = (k : Int)) (hs : ∀ q ∈ L, q.data.size ≤ maxLen)
    (HL : Hid (∀ i (h : i < L.length), ∃ b off, ao = some ⟨b, off, none⟩ ∧ ∀ u, Below w.heap.size w u → u.cell? ⟨b, off + i * 6, none⟩ = some (.int .i64 L[i].client) ∧ u.cell? ⟨b, off + i * 6 + 1, none⟩ = some (.int .i64 L[i].seq) ∧ u.cell? ⟨b, off + i * 6 + 2, none⟩ = some (.int .i64 L[i].kind) ∧
      u.cell? ⟨b, off + i * 6 + 3, none⟩ = some (.int .i64 L[i].id) ∧ u.cell? ⟨b, off + i * 6 + 4, none⟩ = some (.int .i64 L[i].mtch) ∧ u.cell? ⟨b, off + i * 6 + 5, none⟩ = some (.string L[i].data))) :
    Calls Try.prog 7 #[.slice ao n cap, .int .i64 quota] w fun e w' => e = .returned (.bool true) ∧ Below w.heap.size w w' := by
  have HT := Lib.hid (fun u => told4_any u)
  have HN := Lib.hid hn
  have HS := Lib.hid hs
  have kp : (0 : Int) ≤ (k : Int) := by omega
  have k100 : (k : Int) < 100 := by omega
  clear hn hs hk
  go_enter Try.func7, Try.ntmps7
  go_wp2
  go_loopw [6, 7, 8] (fun va vb vi wr => ∃ (i m : Nat) (M : List VerV) (a1 a2 : Option Addr) (c1 c2 : Nat), i ≤ n ∧ vi = .int .i64 i ∧ va = .slice a1 m c1 ∧ vb = .slice a2 m c2 ∧ M.length = m ∧ m ≤ i ∧ (m : Int) ≤ 1 + (k : Int) ∧
    Vers wr wr.heap.size (.slice a1 m c1) M ∧ Vers wr wr.heap.size (.slice a2 m c2) M ∧ Below w.heap.size w wr) (fun _ _ vi _ => n - (intOf vi).toNat)
  case atStart => exact ⟨0, 0, [], none, none, 0, 0, by omega, rfl, rfl, rfl, rfl, by omega, by omega, Vers.none _ _, Vers.none _ _, Below.refl _ _⟩
  case round =>
    obtain ⟨i, m, M, a1, a2, c1, c2, hi, rfl, rfl, rfl, hm, hmi, hmk, hv1, hv2, hbel⟩ := hrel
    have V1 := Lib.hid hv1
    have V2 := Lib.hid hv2
    have HB := Lib.hid hbel
    have HM := Lib.hid hm
    clear hv1 hv2 hbel hm
    by_cases hlt : i < n
    · have hiL : i < L.length := by rw [HN.out]; exact hlt
      obtain ⟨b, off, rfl, hc⟩ := HL.out i hiL
      have FX := Lib.hid hc
      have hsz := HS.out _ (List.getElem_mem hiL)
      unfold maxLen at hsz
      clear hc
      generalize L[i] = q at FX hsz
      obtain ⟨cl, sq, kd, id, mt, dt⟩ := q
      simp only at FX hsz
      clear hiL
      have i0 : (0 : Int) ≤ (i : Int) := by omega
      have i1 : (i : Int) < (n : Int) := by omega
      obtain ⟨f0, f1, f2, f3, f4, f5⟩ := FX.out wr HB.out
      by_cases h100 : 100 < dt.size
      · clear f0 f1 f2 f3 f4
        go_wp2_with fail
        refine (HT.out _).mono ?_
        rintro e w2 ⟨rfl, B2⟩
        have C2 := Lib.hid (HB.out.trans (B2.mono HB.out.size))
        clear B2
        go_wp2
        go_returns
        exact ⟨rfl, C2.out⟩
      · have h100' : dt.size ≤ 100 := by omega
        obtain ⟨M', hM'⟩ : ∃ M', doL M kd mt dt (1 + (k : Int)) = M' := ⟨_, rfl⟩
        obtain ⟨⟨c, r, d, l⟩, hR⟩ : ∃ x, doR M kd mt (1 + (k : Int)) = x := ⟨_, rfl⟩
        have hl : l.length ≤ 60 := by
          have h := doR_len M kd mt (1 + (k : Int))
          rw [hR, HM.out] at h
          simp only at h
          omega
        have g1 : M'.length ≤ i + 1 := by rw [← hM']; have := doL_length M kd mt dt (1 + (k : Int)); rw [HM.out] at this; omega
        have g2 : (M'.length : Int) ≤ 1 + (k : Int) := by rw [← hM']; exact doL_quota M kd mt dt _ (by rw [HM.out]; exact hmk)
        obtain ⟨m', hm'⟩ : ∃ m', M'.length = m' := ⟨_, rfl⟩
        obtain ⟨lm, hlm⟩ : ∃ lm, l.length = lm := ⟨_, rfl⟩
        have hM60 : M.length ≤ 60 := by rw [HM.out]; omega
        have HD : Hid (∀ u v, Vers u u.heap.size v M → Calls Try.prog 12 #[v, .agg #[.int .i64 cl, .int .i64 sq, .int .i64 kd, .int .i64 id, .int .i64 mt, .string dt], .int .i64 (1 + (k : Int))] u (DoesN M' m' l lm c r d u)) :=
          fun u v hv => do_n v M M' m' _ cl sq kd id mt dt _ c r d l lm hM' hR hm' hlm u hv (Nat.le_refl _) (by omega)
        have HE : Hid (∀ u v, Vers u u.heap.size v M → Calls Try.prog 13 #[v, .agg #[.int .i64 cl, .int .i64 sq, .int .i64 kd, .int .i64 id, .int .i64 mt, .string dt], .int .i64 (1 + (k : Int))] u (DoesN M' m' l lm c r d u)) :=
          fun u v hv => (refdo_r v M M' _ cl sq kd id mt dt _ c r d l hM' hR u hv (Nat.le_refl _) (by omega)).mono fun _ _ h => h.n hm' hlm
        have HVV : Hid (∀ v1 v2 u, Vers u u.heap.size v1 M' → Vers u u.heap.size v2 M' → Calls Try.prog 14 #[v1, v2] u fun e w' => e = .returned (.bool true) ∧ Below u.heap.size u w') := by
          intro v1 v2 u h1 h2
          have h := versions_any v1 v2 M' M' _ u h1 h2 (Nat.le_refl _) (by omega)
          rwa [decide_eq_true rfl] at h
        have HSR : Hid (∀ v1 v2 u, Ints u u.heap.size v1 l → Ints u u.heap.size v2 l → Calls Try.prog 15 #[.agg #[.int .i64 c, .int .i64 r, .string d, v1], .agg #[.int .i64 c, .int .i64 r, .string d, v2]] u fun e w' => e = .returned (.bool true) ∧ Below u.heap.size u w') :=
          fun v1 v2 u h1 h2 => refsamereply_any c r c r d d v1 v2 l l _ u h1 h2 (Nat.le_refl _) (by omega) true (show _ = _ by simp)
        rw [hm'] at g1 g2
        have HM' := Lib.hid hm'
        clear hM' hR hl hm' hlm hM60 h100
        go_wp2_with fail
        refine (HD.out _ _ V1.out).mono ?_
        rintro e w3 ⟨x1, k1, o1, p1, rfl, V3, I3, B3⟩
        have B3' : Below wr.heap.size wr (w3.alloc (.cells #[.int .i64 c, .int .i64 r, .string d, .slice o1 lm p1] 29)) := B3.alloc B3.size _
        have B3a := (Below.refl _ w3).alloc (Nat.le_refl _) (.cells #[.int .i64 c, .int .i64 r, .string d, .slice o1 lm p1] 29)
        have C3 := Lib.hid (HB.out.trans (B3'.mono HB.out.size))
        have W3 := Lib.hid (V2.out.on B3')
        have A3 := Lib.hid (V3.on B3a)
        have J3 := Lib.hid ((I3.keep B3a).mono B3a.size)
        have R3 := Lib.hid (RepAt.new w3 c r d (.slice o1 lm p1))
        clear V3 I3 B3 B3' B3a f0 f1 f2 f3 f4 f5
        obtain ⟨f0, f1, f2, f3, f4, f5⟩ := FX.out _ C3.out
        go_wp2_with fail
        refine (HE.out _ _ W3.out).mono ?_
        rintro e w4 ⟨x2, k2, o2, p2, rfl, V4, I4, B4⟩
        have B4' : Below _ _ (w4.alloc (.cells #[.int .i64 c, .int .i64 r, .string d, .slice o2 lm p2] 29)) := B4.alloc B4.size _
        have B4a := (Below.refl _ w4).alloc (Nat.le_refl _) (.cells #[.int .i64 c, .int .i64 r, .string d, .slice o2 lm p2] 29)
        have C4 := Lib.hid (C3.out.trans (B4'.mono C3.out.size))
        have A4 := Lib.hid (A3.out.on B4')
        have J4 := Lib.hid ((J3.out.keep B4').mono B4'.size)
        have R4 := Lib.hid (R3.out.keep B4' R3.out.lt)
        have E4 := Lib.hid (V4.on B4a)
        have K4 := Lib.hid ((I4.keep B4a).mono B4a.size)
        obtain ⟨⟨s0, s1, s2, s3⟩, _⟩ := (RepAt.new w4 c r d (.slice o2 lm p2)).cells
        obtain ⟨⟨r0, r1, r2, r3⟩, _⟩ := R4.out.cells
        have lr := R4.out.lt
        clear V4 I4 B4 B4' B4a W3 A3 J3 R3 C3 f0 f1 f2 f3 f4 f5
        go_wp2_with fail
        refine (HSR.out _ _ _ J4.out K4.out).mono ?_
        rintro e w5 ⟨rfl, B5⟩
        have C5 := Lib.hid (C4.out.trans (B5.mono C4.out.size))
        have A5 := Lib.hid (A4.out.on B5)
        have E5 := Lib.hid (E4.out.on B5)
        clear B5 s0 s1 s2 s3 r0 r1 r2 r3 lr R4 J4 K4 A4 E4 C4
        go_wp2_with fail
        refine (HVV.out _ _ _ A5.out E5.out).mono ?_
        rintro e w6 ⟨rfl, B6⟩
        have C6 := Lib.hid (C5.out.trans (B6.mono C5.out.size))
        have A6 := Lib.hid (A5.out.on B6)
        have E6 := Lib.hid (E5.out.on B6)
        clear B6 A5 E5 C5
        go_wp2
        go_roundw
        case rel => exact ⟨i + 1, m', M', x1, x2, k1, k2, by omega, by go_num, rfl, rfl, HM'.out, by omega, g2, A6.out, E6.out, C6.out⟩
        case measure => simp [intOf]; omega
    · obtain rfl : i = n := by omega
      go_wp2_with fail
      refine (HT.out _).mono ?_
      rintro e w2 ⟨rfl, B2⟩
      have C2 := Lib.hid (HB.out.trans (B2.mono HB.out.size))
      clear B2
      go_wp2
      go_returns
      refine ⟨ret_bool ?_, C2.out⟩
      first | rfl | exact decide_eq_true (by omega)

theorem walk (v : Value) (L : List ReqV) (quota : Int) (w : World) (hV : Reqs w w.heap.size v L) (_ : (Lit.int .i64 quota).wf = true) :
    Calls Try.prog 7 #[v, .int .i64 quota] w fun e w' => e = .returned (.bool true) ∧ Below w.heap.size w w' := by
  obtain ⟨ao, cap, rfl, hm, hs, hc⟩ := hV
  by_cases h60 : 60 < L.length
  · exact many ao _ cap quota w h60
  obtain ⟨k, hk, hq⟩ := modn quota 100 (by decide)
  refine run ao _ cap L quota k w rfl (by omega) (by omega) hq hs ?_
  intro i hi
  obtain ⟨b, off, rfl, hb, hc⟩ := hc (by intro e; rw [e] at hi; simp at hi)
  refine ⟨b, off, rfl, fun u hu => ?_⟩
  have h := hc i hi
  exact ⟨(hu.cell (p := ⟨b, off + i * 6, none⟩) hb).trans h.1, (hu.cell (p := ⟨b, off + i * 6 + 1, none⟩) hb).trans h.2.1, (hu.cell (p := ⟨b, off + i * 6 + 2, none⟩) hb).trans h.2.2.1, (hu.cell (p := ⟨b, off + i * 6 + 3, none⟩) hb).trans h.2.2.2.1,
    (hu.cell (p := ⟨b, off + i * 6 + 4, none⟩) hb).trans h.2.2.2.2.1, (hu.cell (p := ⟨b, off + i * 6 + 5, none⟩) hb).trans h.2.2.2.2.2⟩

set_option maxRecDepth 100000 in
theorem lifted (os : Os) (started : os.Started) (H : Type) (enc : TypeId × Value → H) :
    ReturnsInHanded {} Try.checked os 7 .any (Rows.chartRunsSpec.pre6 enc Try.prog Try.f7 Rows.chartRunsRow.domain false) (Rows.chartRunsSpec.post enc Try.prog Try.f7 false true false false) := by
  refine returnsInHanded_of_change (C := Try.checked) own started (by kernel_rfl) Try.func7
    (ChangeSpec.witness6 (enc := enc) (C := Try.checked) false ⟨#[], #[.slice none 0 0, .int .i64 0], []⟩ 8 (by kernel_rfl) (by kernel_rfl) (by kernel_rfl) (by kernel_rfl)) ?_
  intro W base args ds gs before hval0 hW hcnd _
  have hval : ∀ (j : Nat) t v, Try.f7.params[j]? = some t → args[j]? = some v → Value.okWide Try.prog W .any base t v := hval0
  have hW' := hW
  obtain ⟨p, q, hA0, hV, rfl, hfz, hnd⟩ := hW
  have hA : DataW.TrodAll enc Try.prog W 0 (fun _ => true) true Try.f7.params.toList args.toList ds p := hA0
  rw [Try.params7] at hA hval
  obtain ⟨v0, vs0, d0, ds0, p0, q0, hargs, rfl, rfl, h0, r0⟩ := trodAll_cons hA
  obtain ⟨v1, vs1, d1, ds1, p1, q1, rfl, rfl, rfl, h1, r1⟩ := trodAll_cons r0
  obtain ⟨rfl, rfl, rfl⟩ := trodAll_nil r1
  obtain rfl : args = #[v0, v1] := by cases args; simp_all
  obtain ⟨rfl, rfl⟩ := trodVars_none hV
  obtain ⟨a0, len0, cap0, rfl⟩ := okWide_slice Try.underlying41 (hval 0 41 v0 rfl rfl)
  have k0 := h0
  have lt0 : ∀ x ∈ p0, x.block < W.heap.size := by obtain ⟨m, hm⟩ := k0; exact DataW.trod_lt m _ _ _ hm
  obtain ⟨l0, w0⟩ := reqs_open h0
  obtain ⟨a1, rfl, rfl, rfl, w1⟩ := open_int Try.underlying3 (hval 1 3 v1 rfl rfl) h1
  clear hA0 hval0
  refine (walk (.slice a0 len0 cap0) l0 a1 W w0 w1).mono fun e W' ⟨he, bel⟩ => ?_
  subst he
  exact ⟨_, rfl, _, _, _, [], _, [], hW', trodAll_mk1 (shut_bool Try.underlying4 _), (trodAll_cons_mk (Below.trod laidOut (by kernel_rfl) (of_decide_eq_true (by kernel_rfl)) k0 bel lt0) (trodAll_cons_mk (shut_int Try.underlying3 w1) trodAll_mk0)), rfl, bel.frame _, fun h => by cases h⟩

theorem over : Rows.chartRunsRow.holds Try.pinned (OpenSpec.ofChange Rows.chartRunsSpec) :=
  OpenClaim.holds_of_wide 7 Try.f7 rfl rfl rfl rfl rfl rfl rfl ⟨rfl, rfl, rfl, rfl, rfl⟩ rfl rfl rfl rfl rfl (by kernel_rfl) Try.func7 (by kernel_rfl)
    (of_decide_eq_true (by kernel_rfl)) (by unfold Func.isWrapper; first | (rw [if_pos (by decide +kernel)]; kernel_rfl) | (rw [if_neg (by decide +kernel)]; exact ⟨rfl, rfl⟩))
    (fun os started H enc _ => lifted os started H enc)
end Go.Proofs.Ytichojlijhnlpaa.ChartRuns

namespace Go.Proofs.Ytichojlijhnlpaa
theorem chartRuns_holds : Rows.ChartRunsSaid := ChartRuns.over
#print axioms chartRuns_holds
end Go.Proofs.Ytichojlijhnlpaa
