/-
  Which ballots may be, their order, the next ones, are what the document says (11.1), as BallotAsks says: for any two ballots, any node. No condition.
-/
import Derived.Test.YtejnphfjlphpiaaBallotArgs
import Derived.Test.YtejnphfjlphpiaaBallotT
namespace Go.Proofs.Ytejnphfjlphpiaa.BallotAsks
open Go.ChangeShapes Go.WideShapes Go.ChangeAt Go.RowKit

/-- Four ballots' blocks stand; nothing below has turned. -/
structure PX (w v : World) (b1 b2 b3 b4 : Nat) (r n s m x y x2 y2 : Int) : Prop where
  a : BalB v b1 r n
  b : BalB v b2 s m
  c : BalB v b3 x y
  d : BalB v b4 x2 y2
  bel : Below w.heap.size w v
theorem PX.step {w u v : World} {b1 b2 b3 b4 : Nat} {r n s m x y x2 y2 : Int} (h : PX w u b1 b2 b3 b4 r n s m x y x2 y2) (hb : Below u.heap.size u v) : PX w v b1 b2 b3 b4 r n s m x y x2 y2 :=
  ⟨h.a.keep hb h.a.lt, h.b.keep hb h.b.lt, h.c.keep hb h.c.lt, h.d.keep hb h.d.lt, h.bel.trans (hb.mono h.bel.size)⟩

set_option maxRecDepth 100000 in
set_option maxHeartbeats 4000000 in
theorem walk (r n s m k : Int) (w : World) (_ : (Lit.int .i64 r).wf = true) (_ : (Lit.int .i64 n).wf = true) (_ : (Lit.int .i64 s).wf = true) (_ : (Lit.int .i64 m).wf = true) (_ : (Lit.int .i64 k).wf = true) :
    Calls Try.prog 3 #[.agg #[.int .i64 r, .int .i64 n], .agg #[.int .i64 s, .int .i64 m], .int .i64 k] w fun e w' => e = .returned (.bool true) ∧ Below w.heap.size w w' := by
  obtain ⟨x, y, ok, hx⟩ : ∃ x y ok, nextV r n k = (x, y, ok) := ⟨_, _, _, rfl⟩
  obtain ⟨M, hM⟩ : ∃ M, mayV r n = M := ⟨_, rfl⟩
  obtain ⟨C, hC⟩ : ∃ C, cmpV r n s m = C := ⟨_, rfl⟩
  have HT := Lib.hid (fun u => told11_any u)
  have HN := Lib.hid (fun u => vnext_r r n k u hx)
  have HR := Lib.hid (fun u => rvnext_r r n k u hx)
  have HM := Lib.hid (fun u => vmay_r r n u hM)
  have HMR := Lib.hid (fun u => rvmay_r r n u hM)
  have HC := Lib.hid (fun u => vcmp_r r n s m u hC)
  have HCR := Lib.hid (fun u => rvcmp_r r n s m u hC)
  clear hx hM hC
  go_enter Try.func3, Try.ntmps3
  go_wp2_with fail
  refine (HN.out _).mono ?_
  rintro e w1 ⟨rfl, B1⟩
  have D1 : Hid (BalB w1 w.heap.size r n) := ((BalB.fresh w _ _).alloc _).keep B1 (by simp; omega)
  have E1 : Hid (BalB w1 (w.heap.size + 1) s m) := (show BalB _ (w.heap.size + 1) s m by have := BalB.fresh (w.alloc (.cells #[.int .i64 r, .int .i64 n] 23)) s m; simpa using this).keep B1 (by simp)
  have C1 : Hid (Below w.heap.size w w1) := (((Below.refl _ w).alloc (Nat.le_refl _) _).alloc (by simp) _).trans (B1.mono (by simp; omega))
  have D1a : Hid (∀ o, BalB (w1.alloc o) w.heap.size r n) := fun o => D1.out.alloc o
  obtain ⟨c0, c1, _, _⟩ := D1.out.cells
  have l0 := D1.out.lt
  have l1 := E1.out.lt
  clear B1
  go_wp2_with fail
  refine (HR.out _).mono ?_
  rintro e w2 ⟨rfl, B2⟩
  have D2 : Hid (BalB w2 w.heap.size r n) := (D1a.out _).keep B2 (D1a.out _).lt
  have E2 : Hid (BalB w2 (w.heap.size + 1) s m) := (E1.out.alloc _).keep B2 (E1.out.alloc _).lt
  have F2 : Hid (BalB w2 w1.heap.size x y) := (BalB.fresh w1 _ _).keep B2 (by simp)
  have C2 : Hid (Below w.heap.size w w2) := (C1.out.alloc C1.out.size _).trans (B2.mono (by have := C1.out.size; simp; omega))
  clear B2 c0 c1
  have P0 : PX w (w2.alloc (.cells #[.int .i64 x, .int .i64 y] 23)).drew w.heap.size (w.heap.size + 1) w1.heap.size w2.heap.size r n s m x y x y :=
    ⟨D2.out.alloc _, E2.out.alloc _, F2.out.alloc _, BalB.fresh w2 _ _, (C2.out.alloc C2.out.size _).drew⟩
  have FX : Hid (∀ u, PX w u w.heap.size (w.heap.size + 1) w1.heap.size w2.heap.size r n s m x y x y → u.cell? ⟨w.heap.size, 0, none⟩ = some (.int .i64 r) ∧ u.cell? ⟨w.heap.size, 1, none⟩ = some (.int .i64 n) ∧
      u.cell? ⟨w.heap.size + 1, 0, none⟩ = some (.int .i64 s) ∧ u.cell? ⟨w.heap.size + 1, 1, none⟩ = some (.int .i64 m) ∧ u.cell? ⟨w1.heap.size, 0, none⟩ = some (.int .i64 x) ∧ u.cell? ⟨w1.heap.size, 1, none⟩ = some (.int .i64 y) ∧
      u.cell? ⟨w2.heap.size, 0, none⟩ = some (.int .i64 x) ∧ u.cell? ⟨w2.heap.size, 1, none⟩ = some (.int .i64 y)) := fun u hu =>
    ⟨hu.a.cells.1, hu.a.cells.2.1, hu.b.cells.1, hu.b.cells.2.1, hu.c.cells.1, hu.c.cells.2.1, hu.d.cells.1, hu.d.cells.2.1⟩
  go_wp2_with fail
  refine region_quiet (fun v => PX w v w.heap.size (w.heap.size + 1) w1.heap.size w2.heap.size r n s m x y x y) (by kernel_rfl) (by kernel_rfl) P0 ?_
  repeat (first
    | go_big_quiet_skip
    | (go_big_quiet_want
       (first
        | (refine quiet_run (v := ?_) ?_ ?_; rotate_left; (intro u hu; obtain ⟨c0, c1, c2, c3, c4, c5, c6, c7⟩ := FX.out u hu; go_simp <;> with_reducible rfl); simp only [Act.put, List.setIfInBounds_toArray, List.set_cons_zero, List.set_cons_succ]; go_big_quiet_on)
        | (refine quiet_enter 9 _ ?_ (fun u hu => (HT.out u).mono fun e u' ⟨he, hb⟩ => ⟨he, hu.step hb⟩) ?_; (focus (intro u; first | (go_simp; done) | (go_simp; with_reducible rfl))); simp only [Act.put, List.setIfInBounds_toArray, List.set_cons_zero, List.set_cons_succ]; go_big_quiet_on)
        | (refine quiet_enter 10 _ ?_ (fun u hu => (HM.out u).mono fun e u' ⟨he, hb⟩ => ⟨he, hu.step hb⟩) ?_; (focus (intro u; first | (go_simp; done) | (go_simp; with_reducible rfl))); simp only [Act.put, List.setIfInBounds_toArray, List.set_cons_zero, List.set_cons_succ]; go_big_quiet_on)
        | (refine quiet_enter 11 _ ?_ (fun u hu => (HMR.out u).mono fun e u' ⟨he, hb⟩ => ⟨he, hu.step hb⟩) ?_; (focus (intro u; first | (go_simp; done) | (go_simp; with_reducible rfl))); simp only [Act.put, List.setIfInBounds_toArray, List.set_cons_zero, List.set_cons_succ]; go_big_quiet_on)
        | (refine quiet_enter 12 _ ?_ (fun u hu => (HC.out u).mono fun e u' ⟨he, hb⟩ => ⟨he, hu.step hb⟩) ?_; (focus (intro u; first | (go_simp; done) | (go_simp; with_reducible rfl))); simp only [Act.put, List.setIfInBounds_toArray, List.set_cons_zero, List.set_cons_succ]; go_big_quiet_on)
        | (refine quiet_enter 13 _ ?_ (fun u hu => (HCR.out u).mono fun e u' ⟨he, hb⟩ => ⟨he, hu.step hb⟩) ?_; (focus (intro u; first | (go_simp; done) | (go_simp; with_reducible rfl))); simp only [Act.put, List.setIfInBounds_toArray, List.set_cons_zero, List.set_cons_succ]; go_big_quiet_on))))
  refine wpQuiet_nil ?_
  intro w4 h4
  have C4 : Hid (Below w.heap.size w w4) := h4.bel
  clear P0 FX h4
  go_wp2
  go_returns
  exact ⟨ret_bool (by simp), C4.out⟩

set_option maxRecDepth 100000 in
theorem lifted (os : Os) (started : os.Started) (H : Type) (enc : TypeId × Value → H) :
    ReturnsInHanded {} Try.checked os 3 .any (Rows.ballotAsksSpec.pre6 enc Try.prog Try.f3 Rows.ballotAsksRow.domain false) (Rows.ballotAsksSpec.post enc Try.prog Try.f3 false true false false) := by
  refine returnsInHanded_of_change (C := Try.checked) own started (by kernel_rfl) Try.func3
    (ChangeSpec.witness6 (enc := enc) (C := Try.checked) false ⟨#[], #[.agg #[.int .i64 0, .int .i64 0], .agg #[.int .i64 0, .int .i64 0], .int .i64 0], []⟩ 8 (by kernel_rfl) (by kernel_rfl) (by kernel_rfl) (by kernel_rfl)) ?_
  intro W base args ds gs before hval0 hW hcnd _
  have hval : ∀ (j : Nat) t v, Try.f3.params[j]? = some t → args[j]? = some v → Value.okWide Try.prog W .any base t v := hval0
  have hW' := hW
  obtain ⟨p, q, hA0, hV, rfl, hfz, hnd⟩ := hW
  have hA : DataW.TrodAll enc Try.prog W 0 (fun _ => true) true Try.f3.params.toList args.toList ds p := hA0
  rw [Try.params3] at hA hval
  obtain ⟨v0, vs0, d0, ds0, p0, q0, hargs, rfl, rfl, h0, r0⟩ := trodAll_cons hA
  obtain ⟨v1, vs1, d1, ds1, p1, q1, rfl, rfl, rfl, h1, r1⟩ := trodAll_cons r0
  obtain ⟨v2, vs2, d2, ds2, p2, q2, rfl, rfl, rfl, h2, r2⟩ := trodAll_cons r1
  obtain ⟨rfl, rfl, rfl⟩ := trodAll_nil r2
  obtain rfl : args = #[v0, v1, v2] := by cases args; simp_all
  obtain ⟨rfl, rfl⟩ := trodVars_none hV
  have k0 := h0
  have lt0 : ∀ x ∈ p0, x.block < W.heap.size := by obtain ⟨m, hm⟩ := k0; exact DataW.trod_lt m _ _ _ hm
  obtain ⟨xa0, xb0, rfl, wa0, wb0⟩ := ballot_open (hval 0 23 v0 rfl rfl) h0
  have k1 := h1
  have lt1 : ∀ x ∈ p1, x.block < W.heap.size := by obtain ⟨m, hm⟩ := k1; exact DataW.trod_lt m _ _ _ hm
  obtain ⟨xa1, xb1, rfl, wa1, wb1⟩ := ballot_open (hval 1 23 v1 rfl rfl) h1
  obtain ⟨a2, rfl, rfl, rfl, w2⟩ := open_int Try.underlying3 (hval 2 3 v2 rfl rfl) h2
  clear hA0 hval0
  refine (walk xa0 xb0 xa1 xb1 a2 W wa0 wb0 wa1 wb1 w2).mono fun e W' ⟨he, bel⟩ => ?_
  subst he
  exact ⟨_, rfl, _, _, _, [], _, [], hW', trodAll_mk1 (shut_bool Try.underlying4 _), (trodAll_cons_mk (Below.trod laidOut (by kernel_rfl) (of_decide_eq_true (by kernel_rfl)) k0 bel lt0) (trodAll_cons_mk (Below.trod laidOut (by kernel_rfl) (of_decide_eq_true (by kernel_rfl)) k1 bel lt1) (trodAll_cons_mk (shut_int Try.underlying3 w2) trodAll_mk0))), rfl, bel.frame _, fun h => by cases h⟩

theorem over : Rows.ballotAsksRow.holds Try.pinned (OpenSpec.ofChange Rows.ballotAsksSpec) :=
  OpenClaim.holds_of_wide 3 Try.f3 rfl rfl rfl rfl rfl rfl rfl ⟨rfl, rfl, rfl, rfl, rfl⟩ rfl rfl rfl rfl rfl (by kernel_rfl) Try.func3 (by kernel_rfl)
    (of_decide_eq_true (by kernel_rfl)) (by unfold Func.isWrapper; first | (rw [if_pos (by decide +kernel)]; kernel_rfl) | (rw [if_neg (by decide +kernel)]; exact ⟨rfl, rfl⟩))
    (fun os started H enc _ => lifted os started H enc)
end Go.Proofs.Ytejnphfjlphpiaa.BallotAsks

namespace Go.Proofs.Ytejnphfjlphpiaa
theorem ballotAsks_holds : Rows.BallotAsksSaid := BallotAsks.over
#print axioms ballotAsks_holds
end Go.Proofs.Ytejnphfjlphpiaa
