/-
  PROVED: casebooklaw4.ChartFull answers true, for any two numbers: the row's own reading and nothing else is assumed.
-/
import Derived.Test.YtichojlijhnlpaaChartArgs
import Derived.Test.YtichojlijhnlpaaChartM
namespace Go.Proofs.Ytichojlijhnlpaa.ChartFull
open Go.ChangeShapes Go.WideShapes Go.ChangeAt Go.RowKit

theorem modn (p : Int) (m : Int) (hm : 0 < m) : ∃ k : Nat, (k : Int) < m ∧ (IntKind.u64.wrap p).tmod m = (k : Int) := by
  have hu : 0 ≤ IntKind.u64.wrap p := by simp [IntKind.wrap, IntKind.bits, IntKind.signed]; omega
  have h0 := Int.emod_nonneg (IntKind.u64.wrap p) (by omega : m ≠ 0)
  have h1 := Int.emod_lt_of_pos (IntKind.u64.wrap p) hm
  refine ⟨((IntKind.u64.wrap p).tmod m).toNat, ?_, ?_⟩
  · rw [Int.tmod_eq_emod_of_nonneg hu]; omega
  · rw [Int.tmod_eq_emod_of_nonneg hu]; omega

def full (i : Nat) : List VerV := List.replicate i ⟨false, ⟨#[120]⟩⟩
theorem full_len (i : Nat) : (full i).length = i := by simp [full]
theorem full_succ (i : Nat) : full i ++ [⟨false, ⟨#[120]⟩⟩] = full (i + 1) := by simp [full, List.replicate_succ']
theorem full_last (i : Nat) (h : 0 < i) : (at' (full i) ((full i).length - 1)).gone = false := by
  rw [full_len]
  simp [at', full, List.getD, show i - 1 < i by omega]

theorem full_verd (i : Nat) (h : 0 < i) (kd mt q : Int) (hk : kd ≠ 1) : verdV (full i) kd mt q = restV i mt q := by
  rw [verd_if (full i) kd mt q 1 (by rw [if_neg (by rw [full_len]; omega), full_last i h]; rfl), if_neg (fun h => hk h.1), if_neg (fun h => h.2 rfl), full_len]

theorem grow (i : Nat) (kd q : Int) (hq : (i : Int) < q) (hk : (i = 0 ∧ kd = 1) ∨ (0 < i ∧ kd = 2)) : doL (full i) kd 0 ⟨#[120]⟩ q = full (i + 1) ∧ doR (full i) kd 0 q = ⟨1, (i : Int) + 1, ⟨#[]⟩, []⟩ := by
  have hm : makeV kd ⟨#[120]⟩ = ⟨false, ⟨#[120]⟩⟩ := by unfold makeV; rw [if_neg (by omega)]
  have hv : verdV (full i) kd 0 q = 1 := by
    rcases hk with ⟨rfl, rfl⟩ | ⟨h, rfl⟩
    · rw [verd_if (full 0) 1 0 q 2 rfl, if_neg (by omega), if_neg (by omega)]
      unfold restV
      rw [if_neg (by omega), if_neg (by rw [full_len]; omega)]
    · rw [full_verd i h 2 0 q (by omega)]
      unfold restV
      rw [if_neg (by omega), if_neg (by omega)]
  have h := do_one (full i) kd 0 ⟨#[120]⟩ q (by rcases hk with ⟨_, rfl⟩ | ⟨_, rfl⟩ <;> rfl) hv
  rw [hm, full_succ, full_len] at h
  exact h

theorem stop (i : Nat) (h0 : 0 < i) (kd mt q : Int) (dt : ByteArray) (hk : kd = 2 ∨ kd = 3) (hq : q = i) (c : Int) (hc : (mt = 0 ∧ c = 6) ∨ (mt = q + 1 ∧ c = 5)) : doL (full i) kd mt dt q = full i ∧ doR (full i) kd mt q = ⟨c, q, ⟨#[]⟩, []⟩ := by
  have hv : verdV (full i) kd mt q = c := by
    rw [full_verd i h0 kd mt q (by omega)]
    unfold restV
    rcases hc with ⟨rfl, rfl⟩ | ⟨rfl, rfl⟩
    · rw [if_neg (by omega), if_pos (by omega)]
    · rw [if_pos (by omega)]
  have h := do_none (full i) kd mt dt q c (by rcases hk with rfl | rfl <;> rfl) hv (by omega)
  rw [full_len, ← hq] at h
  exact h

set_option maxRecDepth 100000 in
set_option maxHeartbeats 4000000 in
theorem run (a b : Int) (k n : Nat) (kd : Int) (dt : ByteArray) (w : World) (hk : k < 20) (hn : n = k + 1) (ha : (IntKind.u64.wrap a).tmod 20 = (k : Int))
    (hb : ((IntKind.u64.wrap b).tmod 2 = 0 ∧ kd = 2 ∧ dt = ⟨#[100]⟩) ∨ ((IntKind.u64.wrap b).tmod 2 = 1 ∧ kd = 3 ∧ dt = ⟨#[]⟩)) :
    Calls Try.prog 9 #[.int .i64 a, .int .i64 b] w fun e w' => e = .returned (.bool true) ∧ Below w.heap.size w w' := by
  have HT := Lib.hid (fun u => told4_any u)
  have HN := Lib.hid hn
  have n0 : 0 < n := by omega
  have n20 : n ≤ 20 := by omega
  have HG : Hid (∀ i v u, i < n → Vers u u.heap.size v (full i) → ∀ kd : Int, ((i = 0 ∧ kd = 1) ∨ (0 < i ∧ kd = 2)) → Calls Try.prog 12 #[v, .agg #[.int .i64 0, .int .i64 0, .int .i64 kd, .int .i64 0, .int .i64 0, .string ⟨#[120]⟩], .int .i64 (1 + (k : Int))] u (DoesN (full (i + 1)) (i + 1) [] 0 1 ((i : Int) + 1) ⟨#[]⟩ u)) := by
    intro i v u hi hv kd' hk'
    have g := grow i kd' (1 + (k : Int)) (by omega) hk'
    exact do_n v (full i) (full (i + 1)) (i + 1) _ 0 0 kd' 0 0 ⟨#[120]⟩ (1 + (k : Int)) 1 ((i : Int) + 1) ⟨#[]⟩ [] 0 (show _ = _ from g.1) (show _ = _ from g.2) (full_len _) rfl u hv (Nat.le_refl _) (by rw [full_len]; omega)
  have hkd : kd = 2 ∨ kd = 3 := by rcases hb with ⟨_, h, _⟩ | ⟨_, h, _⟩ <;> simp [h]
  have HQ : Hid (∀ v u, Vers u u.heap.size v (full n) → Calls Try.prog 12 #[v, .agg #[.int .i64 0, .int .i64 0, .int .i64 kd, .int .i64 0, .int .i64 0, .string dt], .int .i64 (1 + (k : Int))] u (DoesN (full n) n [] 0 6 (1 + (k : Int)) ⟨#[]⟩ u)) := by
    intro v u hv
    have g := stop n n0 kd 0 (1 + (k : Int)) dt hkd (by omega) 6 (.inl ⟨rfl, rfl⟩)
    exact do_n v (full n) (full n) n _ 0 0 kd 0 0 dt (1 + (k : Int)) 6 (1 + (k : Int)) ⟨#[]⟩ [] 0 (show _ = _ from g.1) (show _ = _ from g.2) (full_len _) rfl u hv (Nat.le_refl _) (by rw [full_len]; omega)
  have HM : Hid (∀ v u, Vers u u.heap.size v (full n) → Calls Try.prog 12 #[v, .agg #[.int .i64 0, .int .i64 0, .int .i64 kd, .int .i64 0, .int .i64 (1 + (k : Int) + 1), .string dt], .int .i64 (1 + (k : Int))] u (DoesN (full n) n [] 0 5 (1 + (k : Int)) ⟨#[]⟩ u)) := by
    intro v u hv
    have g := stop n n0 kd (1 + (k : Int) + 1) (1 + (k : Int)) dt hkd (by omega) 5 (.inr ⟨rfl, rfl⟩)
    exact do_n v (full n) (full n) n _ 0 0 kd 0 (1 + (k : Int) + 1) dt (1 + (k : Int)) 5 (1 + (k : Int)) ⟨#[]⟩ [] 0 (show _ = _ from g.1) (show _ = _ from g.2) (full_len _) rfl u hv (Nat.le_refl _) (by rw [full_len]; omega)
  have kp : (0 : Int) ≤ (k : Int) := by omega
  have k20 : (k : Int) < 20 := by omega
  clear hn hk
  go_enter Try.func9, Try.ntmps9
  go_wp2
  go_loopw [6, 7] (fun vv vi wr => ∃ (i : Nat) (ao : Option Addr) (c : Nat), i ≤ n ∧ vi = .int .i64 i ∧ vv = .slice ao i c ∧ Vers wr wr.heap.size (.slice ao i c) (full i) ∧ Below w.heap.size w wr) (fun _ vi _ => n - (intOf vi).toNat)
  case atStart => exact ⟨0, Option.none, 0, by omega, rfl, rfl, Vers.none _ _, Below.refl _ _⟩
  case round =>
    obtain ⟨i, ao, c, hi, rfl, rfl, hv, hbel⟩ := hrel
    have HV := Lib.hid hv
    have HB := Lib.hid hbel
    clear hv hbel
    by_cases hlt : i < n
    · have hlt' : (i : Int) < 1 + (k : Int) := by have := HN.out; omega
      have ip : (0 : Int) ≤ (i : Int) := by omega
      by_cases h0 : i = 0
      case' pos =>
        subst h0
        have HC := Lib.hid (HG.out 0 _ wr hlt HV.out 1 (.inl ⟨rfl, rfl⟩))
      case' neg =>
        have e0 : ((i : Int) == 0) = false := by rw [beq_eq_false_iff_ne]; omega
        have HC := Lib.hid (HG.out i _ wr hlt HV.out 2 (.inr ⟨by omega, rfl⟩))
        clear h0
      all_goals
        go_wp2_with fail
        refine HC.out.mono ?_
        rintro e w1 ⟨a1, k1, o1, p1, rfl, V1, _, B1⟩
        have C1 := Lib.hid ((HB.out.trans (B1.mono HB.out.size)).alloc (HB.out.trans (B1.mono HB.out.size)).size)
        have V1' := Lib.hid (fun o => V1.on ((Below.refl _ _).alloc (Nat.le_refl _) o))
        clear V1 B1 HC
        go_wp2
        go_roundw
        case rel => exact ⟨_, a1, k1, by omega, by go_num, rfl, V1'.out _, C1.out _⟩
        case measure => simp [intOf]; omega
    · obtain rfl : i = n := by omega
      have hge : 1 + (k : Int) ≤ (i : Int) := by have := HN.out; omega
      have e1 : ((i : Int) == 1 + (k : Int)) = true := by rw [beq_iff_eq]; have := HN.out; omega
      rcases hb with ⟨h2, rfl, rfl⟩ | ⟨h2, rfl, rfl⟩
      case' inl => have HP := Lib.hid (fun u => pick_not 2 u (by decide))
      case' inr => have HP := Lib.hid (fun u => pick_del u)
      all_goals
        go_wp2_with fail
        refine (HP.out _).mono ?_
        rintro e w1 ⟨rfl, rfl⟩
        go_wp2_with fail
        refine (HQ.out _ _ HV.out).mono ?_
        rintro e w1 ⟨a1, k1, o1, p1, rfl, V1, _, B1⟩
        have C1 := Lib.hid (HB.out.trans (B1.mono HB.out.size))
        have V1' := Lib.hid ((HV.out.on B1).on ((Below.refl _ w1).alloc (Nat.le_refl _) (.cells #[.int .i64 6, .int .i64 (1 + (k : Int)), .string ⟨#[]⟩, .slice o1 0 p1] 29)))
        clear V1 B1
        go_wp2_with fail
        refine (HP.out _).mono ?_
        rintro e w2 ⟨rfl, rfl⟩
        go_wp2_with fail
        refine (HM.out _ _ V1'.out).mono ?_
        rintro e w2 ⟨a2, k2, o2, p2, rfl, V2, _, B2⟩
        have C2 := Lib.hid ((C1.out.alloc C1.out.size _).trans (B2.mono (C1.out.alloc C1.out.size _).size))
        have R2 := Lib.hid (RepAt.keep (RepAt.new w1 6 (1 + (k : Int)) ⟨#[]⟩ (.slice o1 0 p1)) B2 (by simp))
        clear V2 B2 V1'
        go_wp2_with fail
        refine (HT.out _).mono ?_
        rintro e w3 ⟨rfl, B3⟩
        have C3 := Lib.hid ((C2.out.alloc C2.out.size _).trans (B3.mono (C2.out.alloc C2.out.size _).size))
        obtain ⟨⟨s0, s1, s2, s3⟩, _⟩ := (RepAt.keep (RepAt.new w2 5 (1 + (k : Int)) ⟨#[]⟩ (.slice o2 0 p2)) B3 (by simp)).cells
        obtain ⟨⟨r0, r1, r2, r3⟩, _⟩ := ((R2.out.alloc _).keep B3 (by have := R2.out.lt; simp; omega)).cells
        clear B3
        go_wp2
        go_returns
        exact ⟨rfl, C3.out⟩

theorem walk (a b : Int) (w : World) (_ : (Lit.int .i64 a).wf = true) (_ : (Lit.int .i64 b).wf = true) :
    Calls Try.prog 9 #[.int .i64 a, .int .i64 b] w fun e w' => e = .returned (.bool true) ∧ Below w.heap.size w w' := by
  obtain ⟨k, hk, ha⟩ := modn a 20 (by decide)
  obtain ⟨j, hj, hb⟩ := modn b 2 (by decide)
  rcases (show j = 0 ∨ j = 1 by omega) with rfl | rfl
  · exact run a b k (k + 1) 2 ⟨#[100]⟩ w (by omega) rfl ha (.inl ⟨hb, rfl, rfl⟩)
  · exact run a b k (k + 1) 3 ⟨#[]⟩ w (by omega) rfl ha (.inr ⟨hb, rfl, rfl⟩)

set_option maxRecDepth 100000 in
theorem lifted (os : Os) (started : os.Started) (H : Type) (enc : TypeId × Value → H) :
    ReturnsInHanded {} Try.checked os 9 .any (Rows.chartFullSpec.pre6 enc Try.prog Try.f9 Rows.chartFullRow.domain false) (Rows.chartFullSpec.post enc Try.prog Try.f9 false true false false) := by
  refine returnsInHanded_of_change (C := Try.checked) own started (by kernel_rfl) Try.func9
    (ChangeSpec.witness6 (enc := enc) (C := Try.checked) false ⟨#[], #[.int .i64 0, .int .i64 0], []⟩ 8 (by kernel_rfl) (by kernel_rfl) (by kernel_rfl) (by kernel_rfl)) ?_
  intro W base args ds gs before hval0 hW hcnd _
  have hval : ∀ (j : Nat) t v, Try.f9.params[j]? = some t → args[j]? = some v → Value.okWide Try.prog W .any base t v := hval0
  have hW' := hW
  obtain ⟨p, q, hA0, hV, rfl, hfz, hnd⟩ := hW
  have hA : DataW.TrodAll enc Try.prog W 0 (fun _ => true) true Try.f9.params.toList args.toList ds p := hA0
  rw [Try.params9] at hA hval
  obtain ⟨v0, vs0, d0, ds0, p0, q0, hargs, rfl, rfl, h0, r0⟩ := trodAll_cons hA
  obtain ⟨v1, vs1, d1, ds1, p1, q1, rfl, rfl, rfl, h1, r1⟩ := trodAll_cons r0
  obtain ⟨rfl, rfl, rfl⟩ := trodAll_nil r1
  obtain rfl : args = #[v0, v1] := by cases args; simp_all
  obtain ⟨rfl, rfl⟩ := trodVars_none hV
  obtain ⟨a0, rfl, rfl, rfl, w0⟩ := open_int Try.underlying3 (hval 0 3 v0 rfl rfl) h0
  obtain ⟨a1, rfl, rfl, rfl, w1⟩ := open_int Try.underlying3 (hval 1 3 v1 rfl rfl) h1
  clear hA0 hval0
  refine (walk a0 a1 W w0 w1).mono fun e W' ⟨he, bel⟩ => ?_
  subst he
  exact ⟨_, rfl, _, _, _, [], _, [], hW', trodAll_mk1 (shut_bool Try.underlying4 _), (trodAll_cons_mk (shut_int Try.underlying3 w0) (trodAll_cons_mk (shut_int Try.underlying3 w1) trodAll_mk0)), rfl, bel.frame _, fun h => by cases h⟩

theorem over : Rows.chartFullRow.holds Try.pinned (OpenSpec.ofChange Rows.chartFullSpec) :=
  OpenClaim.holds_of_wide 9 Try.f9 rfl rfl rfl rfl rfl rfl rfl ⟨rfl, rfl, rfl, rfl, rfl⟩ rfl rfl rfl rfl rfl (by kernel_rfl) Try.func9 (by kernel_rfl)
    (of_decide_eq_true (by kernel_rfl)) (by unfold Func.isWrapper; first | (rw [if_pos (by decide +kernel)]; kernel_rfl) | (rw [if_neg (by decide +kernel)]; exact ⟨rfl, rfl⟩))
    (fun os started H enc _ => lifted os started H enc)
end Go.Proofs.Ytichojlijhnlpaa.ChartFull

namespace Go.Proofs.Ytichojlijhnlpaa
theorem chartFull_holds : Rows.ChartFullSaid := ChartFull.over
#print axioms chartFull_holds
end Go.Proofs.Ytichojlijhnlpaa
