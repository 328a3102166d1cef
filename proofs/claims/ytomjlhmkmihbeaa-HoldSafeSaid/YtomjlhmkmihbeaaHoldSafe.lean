/-
  PROVED: casebooklaw16.HoldSafe answers true and leaves its arguments as they were, for any numbers: the row's own reading and nothing else is assumed.
-/
import Derived.Test.YtomjlhmkmihbeaaHdT
import Derived.Test.YtomjlhmkmihbeaaQGr
import Derived.Test.YtomjlhmkmihbeaaGrantT0
import Derived.Test.YtomjlhmkmihbeaaPackT
import Derived.Deep.DeepCutAuto
namespace Go.Proofs.Ytomjlhmkmihbeaa.HoldSafe
open Go.ChangeShapes Go.WideShapes Go.ChangeAt Go.RowKit

theorem sg_beside {u u' : World} {m rb ab n beg c : Nat} {f : Nat → Nat} (H : RGr u m rb ab n beg c f) (hk : KHd u u') : RGr u' m rb ab n beg c f := by
  obtain ⟨cur, h1, h2⟩ := H.row
  exact ⟨hk.same _ _ _ H.blk (by decide), ⟨cur, hk.same _ _ _ h1 (by decide), h2⟩, H.low, H.pos, H.le⟩
/-- The lease and the grants. -/
structure SG (n : Nat) (w : World) (p r : Nat) (qs : Nat → QV) (rb ab c : Nat) (f : Nat → Nat) (u : World) : Prop where
  lo : LO n w p 1 r qs u
  gr : RGr u n rb ab 2 0 c f
section
variable {n : Nat} {w u u' : World} {p r : Nat} {qs qs' : Nat → QV} {rb ab c : Nat} {f f' : Nat → Nat}
theorem SG.on (h : SG n w p r qs rb ab c f u) (hb : Below u.heap.size u u') : SG n w p r qs rb ab c f u' := ⟨h.lo.on hb, h.gr.on hb⟩
theorem SG.give (h : SG n w p r qs rb ab c f u) (t k : Nat) (hk : k < 2) (ht : t ≤ 1000) (hf : upF f k (max (f k) (t + 50)) = f') :
    Calls Try.prog 23 #[.pointer (some ⟨rb, 0, none⟩), .int .i64 t, .int .i64 k] u fun e w' => e = .returned (.bool true) ∧ Hid (SG n w p r qs rb ab c f' w') :=
  (qggive_yes h.gr t k hk (Nat.zero_le _) (by omega)).mono fun _ _ ⟨he, hr, ho⟩ => ⟨he, by
    rw [hf] at hr
    have hp : ¬ p = ab := fun e => h.gr.row.kind h.lo.hd.blk (by decide) e.symm
    exact ⟨⟨h.lo.hd.keep ho hp, h.lo.as_, ho.below h.lo.bel (fun y hy => hy ▸ h.gr.low.2) h.lo.size, h.lo.low, h.lo.nw⟩, hr⟩⟩
theorem SG.ask (h : SG n w p r qs rb ab c f u) (hr : r ≤ 1000) (t ep : Int) (hB : askB r qs t ep = true) (hq : upQ qs (r % 4) (.new t ep) = qs') :
    Calls Try.prog 13 #[.pointer (some ⟨p, 0, none⟩), .int .i64 t, .int .i64 ep] u fun e w' => e = .returned (.int .i64 ((r : Int) + 1)) ∧ Hid (SG n w p (r + 1) qs' rb ab c f w') :=
  (h.lo.ask (by omega) t ep hB hq).mono fun _ _ ⟨he, hh⟩ => ⟨he, hh.out.1, sg_beside h.gr hh.out.2⟩
theorem SG.tell (h : SG n w p r qs rb ab c f u) (hr : r ≤ 1000) (id k : Int) (hB : tellB 1 r qs id k = true) (hq : upQ qs ((id - 1) % 4).toNat ((qs ((id - 1) % 4).toNat).tell k.toNat) = qs') :
    Calls Try.prog 14 #[.pointer (some ⟨p, 0, none⟩), .int .i64 id, .int .i64 k] u fun e w' => e = .returned (.bool true) ∧ Hid (SG n w p r qs' rb ab c f w') :=
  (h.lo.tell (by omega) id k hB hq).mono fun _ _ ⟨he, hh⟩ => ⟨he, hh.out.1, sg_beside h.gr hh.out.2⟩
end
/-- .. and two chains. -/
structure SC (n : Nat) (w : World) (p r : Nat) (qs : Nat → QV) (rb ab c : Nat) (f : Nat → Nat) (q1 : Nat) (v1 : Value) (q2 : Nat) (v2 : Value) (u : World) : Prop where
  s : SG n w p r qs rb ab c f u
  c1 : ChT u q1 1 v1
  x1 : RowI u v1 [0, 1]
  c2 : ChT u q2 2 v2
  x2 : RowI u v2 [0]
section
variable {n : Nat} {w u u' : World} {p r : Nat} {qs qs' : Nat → QV} {rb ab c : Nat} {f f' : Nat → Nat} {q1 : Nat} {v1 : Value} {q2 : Nat} {v2 : Value}
theorem SC.on (h : SC n w p r qs rb ab c f q1 v1 q2 v2 u) (hb : Below u.heap.size u u') : SC n w p r qs rb ab c f q1 v1 q2 v2 u' := ⟨h.s.on hb, h.c1.keep hb h.c1.lt, h.x1.on hb, h.c2.keep hb h.c2.lt, h.x2.on hb⟩
theorem SC.cells (h : SC n w p r qs rb ab c f q1 v1 q2 v2 u) : (u.cell? ⟨q1, 0, none⟩ = some (.int .i64 1) ∧ u.cell? ⟨q1, 1, none⟩ = some v1) ∧ u.cell? ⟨q2, 0, none⟩ = some (.int .i64 2) ∧ u.cell? ⟨q2, 1, none⟩ = some v2 :=
  ⟨⟨h.c1.cells.1, h.c1.cells.2.1⟩, h.c2.cells.1, h.c2.cells.2.1⟩
theorem SC.valid (h : SC n w p r qs rb ab c f q1 v1 q2 v2 u) (hr : r ≤ 1000) (t ep : Int) (ht : Top t) {R : Bool} (hR : validB 1 r qs t ep = R) :
    Calls Try.prog 16 #[.pointer (some ⟨p, 0, none⟩), .int .i64 t, .int .i64 ep] u fun e w' => e = .returned (.bool R) ∧ Hid (SC n w p r qs rb ab c f q1 v1 q2 v2 w') :=
  (h.s.lo.valid (by omega) t ep ht hR).mono fun _ _ ⟨he, hh⟩ => ⟨he, h.on hh.out.2⟩
theorem SC.veto (h : SC n w p r qs rb ab c f q1 v1 q2 v2 u) (t : Int) {R : Bool} (hR : vetoR 2 f t [0, 1] [0] = R) :
    Calls Try.prog 24 #[.pointer (some ⟨rb, 0, none⟩), .int .i64 t, .agg #[.int .i64 1, v1], .agg #[.int .i64 2, v2]] u fun e w' => e = .returned (.bool R) ∧ Hid (SC n w p r qs rb ab c f q1 v1 q2 v2 w') :=
  (qgveto_r h.s.gr t 1 v1 [0, 1] (by decide) 2 v2 [0] (by decide) h.x1.ints h.x2.ints hR).mono fun _ _ ⟨he, hb⟩ => ⟨he, h.on hb⟩
end
def qs1 : Nat → QV := upQ noQ 0 (.new 100 1)
def qs2 : Nat → QV := upQ qs1 0 ((qs1 0).tell 0)
def fS : Nat → Nat := upF (grF 0 2) 1 550
theorem fS_1 : fS 1 = 550 := rfl
theorem valid_s (p : Nat) : validB 1 1 qs2 (100 + (p : Int)) 1 = decide (p < 20) := by
  unfold validB
  refine decide_eq_decide.2 ⟨fun ⟨j, hj, h⟩ => ?_, fun h => ⟨0, by decide, decide_eq_true ⟨rfl, by decide, ?_, ?_⟩⟩⟩
  · obtain rfl : j = 0 := by omega
    have h4 := (of_decide_eq_true h).2.2.2
    have e : (qs2 0).asked = 100 := rfl
    rw [e] at h4
    omega
  · show (100 : Int) ≤ _
    omega
  · show _ < (100 : Int) + 20
    omega
theorem veto_s (a : Nat) (ha : a < 50) : vetoR 2 fS (500 + (a : Int)) [0, 1] [0] = true :=
  decide_eq_true ⟨1, by decide, by decide, by decide, by decide, by rw [show (1 : Int).toNat = 1 from rfl, fS_1]; omega⟩

set_option maxRecDepth 100000 in
set_option maxHeartbeats 1000000 in
theorem walk (x y : Int) (w : World) (_hx : (Lit.int .i64 x).wf = true) (_hy : (Lit.int .i64 y).wf = true) :
    Calls Try.prog 6 #[.int .i64 x, .int .i64 y] w fun e w' => e = .returned (.bool true) ∧ Below w.heap.size w w' := by
  have HT := Lib.hid (fun u => told16_any u)
  obtain ⟨p, hp, ep⟩ := left_of x 60 (by decide) (by decide)
  have EP : Hid (wrap64 ((IntKind.u64.wrap x).tmod 60) = (p : Int)) := ep
  obtain ⟨a, ha, ea⟩ := left_of y (2 * p + 5) (by omega) (by omega)
  have EA : Hid (wrap64 ((IntKind.u64.wrap y).tmod (2 * (p : Int) + 5)) = (a : Int)) := by
    show _ = _
    rw [show ((2 * p + 5 : Nat) : Int) = 2 * (p : Int) + 5 by omega] at ea
    exact ea
  obtain ⟨n, hn⟩ : ∃ n, n = w.heap.size := ⟨_, rfl⟩
  rw [← hn]
  have HN : Hid (Calls Try.prog 12 #[.int .i64 1] w fun e w' => ∃ b, e = .returned (.tuple #[.pointer (some ⟨b, 0, none⟩), .int .i64 0]) ∧ Hid (LO n w b 1 0 noQ w' ∧ Below w.heap.size w w')) :=
    lo_new 1 w (by decide) (by decide) (Below.refl _ _) (Nat.le_of_eq hn)
  have HG : Hid (∀ u, Calls Try.prog 22 #[.int .i64 2, .int .i64 0] u fun e w' => ∃ rb ab c, e = .returned (.pointer (some ⟨rb, 0, none⟩)) ∧ RGr w' u.heap.size rb ab 2 0 c (grF 0 2) ∧ Below u.heap.size u w') :=
    fun u => (qgnew_yes 2 0 u (by decide) (by decide) (by decide)).mono fun _ _ ⟨ab, c, he, hr, hb⟩ => ⟨_, ab, c, he, hr, hb⟩
  have hu1 : IntKind.u64.wrap (2 * (p : Int) + 5) = 2 * (p : Int) + 5 := by rw [IntKind.wrap_u64]; omega
  have hu2 : ((2 * (p : Int) + 5) == 0) = false := beq_eq_false_iff_ne.2 (by omega)
  clear ep ea _hx _hy hn
  go_enter Try.func6, Try.ntmps6
  go_wp2_with fail
  refine HN.out.mono ?_
  rintro e w1 ⟨b, rfl, H1⟩
  clear HN
  have L1 := Lib.hid H1.out.1
  clear H1
  go_upto_region 5 with fail
  rw [EP.out]
  go_wp2_with fail
  rw [EA.out]
  refine (HG.out _).mono ?_
  rintro e w2 ⟨rb, ab, c, rfl, G2, B2⟩
  have S2 : Hid (SG n w b 0 noQ rb ab c (grF 0 2) w2) := ⟨L1.out.on B2, ⟨G2.blk, G2.row, ⟨Nat.le_trans L1.out.size G2.low.1, Nat.le_trans L1.out.size G2.low.2⟩, G2.pos, G2.le⟩⟩
  clear L1 G2 B2 HG hu1 hu2 EA EP
  go_wp2_with fail
  refine (S2.out.give 500 1 (by decide) (by decide) (f' := fS) rfl).mono ?_
  rintro e w3 ⟨rfl, S3⟩
  clear S2
  go_wp2_with fail
  refine (S3.out.ask (by decide) 100 1 (by decide) (qs' := qs1) rfl).mono ?_
  rintro e w4 ⟨rfl, S4⟩
  clear S3
  go_wp2_with fail
  refine (S4.out.tell (by decide) 1 0 (by decide) (qs' := qs2) rfl).mono ?_
  rintro e w5 ⟨rfl, S5⟩
  clear S4
  obtain ⟨y2, hy2⟩ : ∃ y, y = w5.alloc (.cells #[.int .i64 0, .int .i64 1] 3) := ⟨_, rfl⟩
  obtain ⟨y3, hy3⟩ : ∃ y, y = y2.alloc (.cells #[.int .i64 0] 3) := ⟨_, rfl⟩
  obtain ⟨y4, hy4⟩ : ∃ y, y = y3.alloc (.cells #[.int .i64 1, .slice (some ⟨w5.heap.size, 0, none⟩) 2 2] 43) := ⟨_, rfl⟩
  obtain ⟨y5, hy5⟩ : ∃ y, y = y4.alloc (.cells #[.int .i64 2, .slice (some ⟨y2.heap.size, 0, none⟩) 1 1] 43) := ⟨_, rfl⟩
  have e2 : Below w5.heap.size w5 y2 := by rw [hy2]; exact (Below.refl _ _).alloc (Nat.le_refl _) _
  have e3 : Below y2.heap.size y2 y3 := by rw [hy3]; exact (Below.refl _ _).alloc (Nat.le_refl _) _
  have e4 : Below y3.heap.size y3 y4 := by rw [hy4]; exact (Below.refl _ _).alloc (Nat.le_refl _) _
  have e5 : Below y4.heap.size y4 y5 := by rw [hy5]; exact (Below.refl _ _).alloc (Nat.le_refl _) _
  have T0 : SC n w b 1 qs2 rb ab c fS y3.heap.size (.slice (some ⟨w5.heap.size, 0, none⟩) 2 2) y4.heap.size (.slice (some ⟨y2.heap.size, 0, none⟩) 1 1) y5 := by
    have r1 := row_lits w5 [0, 1] 2 rfl (by decide)
    have r2 := row_lits y2 [0] 1 rfl (by decide)
    have k1 := ChT.fresh y3 1 (.slice (some ⟨w5.heap.size, 0, none⟩) 2 2)
    have k2 := ChT.fresh y4 2 (.slice (some ⟨y2.heap.size, 0, none⟩) 1 1)
    rw [← hy4] at k1
    rw [← hy5] at k2
    rw [show (intCells [0, 1]).toArray = #[.int .i64 0, .int .i64 1] from rfl, ← hy2] at r1
    rw [show (intCells [0]).toArray = #[.int .i64 0] from rfl, ← hy3] at r2
    exact ⟨(((S5.out.on e2).on e3).on e4).on e5, k1.keep e5 k1.lt, ((r1.on e3).on e4).on e5, k2, (r2.on e4).on e5⟩
  have s2 : y2.heap.size = w5.heap.size + 1 := by rw [hy2]; simp
  have s3 : y3.heap.size = w5.heap.size + 1 + 1 := by rw [hy3]; simp [s2]
  have s4 : y4.heap.size = w5.heap.size + 1 + 1 + 1 := by rw [hy4]; simp [s3]
  rw [s2, s3, s4] at T0
  rw [s2] at hy5
  rw [hy4, hy3, hy2] at hy5
  have HY := Lib.hid hy5
  have HT0 := Lib.hid T0
  clear hy2 hy3 hy4 hy5 e2 e3 e4 e5 s2 s3 s4 T0 S5
  go_wp2_with fail
  rw [← HY.out]
  obtain ⟨q, hq⟩ : ∃ q, q = w5.heap.size := ⟨_, rfl⟩
  rw [← hq] at HT0 ⊢
  clear hq HY
  refine (HT.out _).mono ?_
  rintro e w6 ⟨rfl, B6⟩
  have T6 := Lib.hid (HT0.out.on B6)
  clear HT0 B6
  by_cases hp20 : p < 20
  · have HA50 := Lib.hid (show a < 50 by omega)
    have HV := Lib.hid (T6.out.valid (by decide) (100 + (p : Int)) 1 (toplit (by omega)) ((valid_s p).trans (decide_eq_true hp20)))
    clear hp20 T6
    go_wp2_with fail
    refine HV.out.mono ?_
    rintro e w7 ⟨rfl, T7⟩
    have HW := Lib.hid (T7.out.veto (500 + (a : Int)) (veto_s a HA50.out))
    obtain ⟨⟨d0, d1⟩, d2, d3⟩ := T7.out.cells
    clear T7 HV HA50
    go_wp2_with fail
    refine HW.out.mono ?_
    rintro e w8 ⟨rfl, T8⟩
    go_wp2
    go_returns
    exact ⟨by first | rfl | trivial, T8.out.s.lo.bel⟩
  · have HV := Lib.hid (T6.out.valid (by decide) (100 + (p : Int)) 1 (toplit (by omega)) ((valid_s p).trans (decide_eq_false hp20)))
    clear hp20 T6
    go_wp2_with fail
    refine HV.out.mono ?_
    rintro e w7 ⟨rfl, T7⟩
    go_wp2
    go_returns
    exact ⟨by first | rfl | trivial, T7.out.s.lo.bel⟩

set_option maxRecDepth 100000 in
theorem lifted (os : Os) (started : os.Started) (H : Type) (enc : TypeId × Value → H) :
    ReturnsInHanded {} Try.checked os 6 .any (Rows.holdSafeSpec.pre6 enc Try.prog Try.f6 Rows.holdSafeRow.domain false) (Rows.holdSafeSpec.post enc Try.prog Try.f6 false true false false) := by
  refine returnsInHanded_of_change (C := Try.checked) own started (by kernel_rfl) Try.func6
    (ChangeSpec.witness6 (enc := enc) (C := Try.checked) false ⟨#[], #[.int .i64 0, .int .i64 0], []⟩ 8 (by kernel_rfl) (by kernel_rfl) (by kernel_rfl) (by kernel_rfl)) ?_
  intro W base args ds gs before hval0 hW hcnd _
  have hval : ∀ (j : Nat) t v, Try.f6.params[j]? = some t → args[j]? = some v → Value.okWide Try.prog W .any base t v := hval0
  have hW' := hW
  obtain ⟨p, q, hA0, hV, rfl, hfz, hnd⟩ := hW
  have hA : DataW.TrodAll enc Try.prog W 0 (fun _ => true) true Try.f6.params.toList args.toList ds p := hA0
  rw [Try.params6] at hA hval
  obtain ⟨v0, vs0, d0, ds0, p0, q0, hargs, rfl, rfl, h0, r0⟩ := trodAll_cons hA
  obtain ⟨v1, vs1, d1, ds1, p1, q1, rfl, rfl, rfl, h1, r1⟩ := trodAll_cons r0
  obtain ⟨rfl, rfl, rfl⟩ := trodAll_nil r1
  obtain rfl : args = #[v0, v1] := by cases args; simp_all
  obtain ⟨rfl, rfl⟩ := trodVars_none hV
  obtain ⟨a0, rfl, rfl, rfl, w0⟩ := open_int Try.underlying3 (hval 0 3 v0 rfl rfl) h0
  obtain ⟨a1, rfl, rfl, rfl, w1⟩ := open_int Try.underlying3 (hval 1 3 v1 rfl rfl) h1
  clear hA0 hval0
  refine (walk a0 a1 W w0 w1).mono fun e W' ⟨he, bel⟩ => ?_
  subst he
  exact ⟨_, rfl, _, _, _, [], _, [], hW', trodAll_mk1 (shut_bool Try.underlying4 _), (trodAll_cons_mk (shut_int Try.underlying3 w0) (trodAll_cons_mk (shut_int Try.underlying3 w1) trodAll_mk0)), rfl, bel.frame _, fun h => by cases h⟩

theorem over : Rows.holdSafeRow.holds Try.pinned (OpenSpec.ofChange Rows.holdSafeSpec) :=
  OpenClaim.holds_of_wide 6 Try.f6 rfl rfl rfl rfl rfl rfl rfl ⟨rfl, rfl, rfl, rfl, rfl⟩ rfl rfl rfl rfl rfl (by kernel_rfl) Try.func6 (by kernel_rfl)
    (of_decide_eq_true (by kernel_rfl)) (by unfold Func.isWrapper; first | (rw [if_pos (by decide +kernel)]; kernel_rfl) | (rw [if_neg (by decide +kernel)]; exact ⟨rfl, rfl⟩))
    (fun os started H enc _ => lifted os started H enc)
end Go.Proofs.Ytomjlhmkmihbeaa.HoldSafe

namespace Go.Proofs.Ytomjlhmkmihbeaa
theorem holdSafe_holds : Rows.HoldSafeSaid := HoldSafe.over
#print axioms holdSafe_holds
end Go.Proofs.Ytomjlhmkmihbeaa
