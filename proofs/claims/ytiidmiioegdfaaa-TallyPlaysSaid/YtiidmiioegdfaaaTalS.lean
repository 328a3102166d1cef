/-
  THE REFERENCE's COUNT: Promise. Votes' chains lie in what came in.
-/
import Derived.Test.YtiidmiioegdfaaaTalR
import Derived.Deep.DeepCutAuto
namespace Go.Proofs.Ytiidmiioegdfaaa
open Go.RowKit Go.Maps

def ryP (d : RefV) (x : Int) (v : VoteV) : Bool := decide (0 ≤ x ∧ x < d.n) && !decide (x ∈ d.F) && decide ((v.pr = d.r ∧ v.pn = d.k) ∧ (v.has = true → mayV v.ar v.an = true ∧ ChainV.may ⟨v.ce, v.C⟩ ∧ v.ce = d.ce))
def proD (d : RefV) (x : Int) (y : VoteW) (R : Bool) : RefV := if R = true then ⟨d.n, d.r, d.k, d.ce, d.cv, d.C, d.V ++ [y], d.F ++ [x], d.S⟩ else d
/-- Two rows' blocks. -/
def SS (fv vv : Value) (b : Nat) : Prop := fv.ownBlock = some b ∨ vv.ownBlock = some b
def ProPost (n : Nat) (w0 : World) (X : Nat) (vv fv sv : Value) (d : RefV) (w w' : World) : Prop :=
  ∃ vv' fv', RTal n w0 X vv' fv' sv d w' ∧ (∀ b, fv'.ownBlock = some b → fv.ownBlock = some b ∨ w.heap.size ≤ b) ∧ Only (fun b => b = X ∨ SS fv vv b) w w'
theorem RTal.notX {n : Nat} {w0 w : World} {X : Nat} {vv fv sv : Value} {d : RefV} (h : RTal n w0 X vv fv sv d w) : ¬ SS fv vv X := fun e => by
  have hx : w.heap[X]? = _ := h.b
  rcases e with e | e
  · obtain ⟨cs, hc⟩ := row_kindT h.f e
    rw [hx] at hc
    simp only [Option.some.injEq, Obj.cells.injEq] at hc
    exact absurd hc.2.1 (by decide)
  · obtain ⟨cs, hc⟩ := row_kindT h.v e
    rw [hx] at hc
    simp only [Option.some.injEq, Obj.cells.injEq] at hc
    exact absurd hc.2.1 (by decide)
theorem RTal.lt {n : Nat} {w0 w : World} {X : Nat} {vv fv sv : Value} {d : RefV} (h : RTal n w0 X vv fv sv d w) {b : Nat} (e : SS fv vv b) : b < w.heap.size ∧ n ≤ b := by
  rcases e with e | e
  · exact ⟨(h.f.lt b e).2, (h.f.lt b e).1⟩
  · exact ⟨(h.v.lt b e).2, (h.v.lt b e).1⟩
theorem rypro_end {n : Nat} {w0 W N : World} {X : Nat} {vv fv sv vv' fv' : Value} {d : RefV} {x : Int} {y : VoteW} (h : RTal n w0 X vv fv sv d W) (O : Only (SS fv vv) W N)
    (hF : N.ownsRow n 3 1 fv' (d.F ++ [x]).length (intCells (d.F ++ [x]))) (hV : N.ownsRow n 40 7 vv' (d.V ++ [y]).length (vcells (d.V ++ [y]))) (fr : ∀ b, fv'.ownBlock = some b → fv.ownBlock = some b ∨ W.heap.size ≤ b) (hy : Ints w0 n y.c y.v.C) :
    RTal n w0 X vv' fv' sv (proD d x y true) ((N.setCell ⟨X, 6, none⟩ fv').setCell ⟨X, 5, none⟩ vv') := by
  have hX : RTB N X vv fv sv d := (O.block X h.b.lt h.notX).trans h.b
  have o2 : Only (· = X) N ((N.setCell ⟨X, 6, none⟩ fv').setCell ⟨X, 5, none⟩ vv') := (Only.set X 6 N _).trans (Only.set X 5 _ _)
  have hx2 : RTB ((N.setCell ⟨X, 6, none⟩ fv').setCell ⟨X, 5, none⟩ vv') X vv' fv' sv (proD d x y true) := by
    show _ = _
    rw [heap_setCell_same _ _ _ _ _ _ (heap_setCell_same _ _ _ _ _ _ hX)]
    rfl
  have rk : ∀ {T : TypeId} {k i : Nat} {v : Value} {xs : List Value}, N.ownsRow n T k v i xs → T ≠ 38 → ((N.setCell ⟨X, 6, none⟩ fv').setCell ⟨X, 5, none⟩ vv').ownsRow n T k v i xs := fun hr hT => row_still hr fun b hb => by
    obtain ⟨cs, hc⟩ := row_kindT hr hb
    refine o2.block b (lt_of_block hc) (fun e => ?_)
    have e' : b = X := e
    rw [e', show N.heap[X]? = _ from hX] at hc
    simp only [Option.some.injEq, Obj.cells.injEq] at hc
    exact hT hc.2.1.symm
  have hs : N.ownsRow n 3 1 sv d.S.length (intCells d.S) := row_still h.s fun b hb => O.block b (h.s.lt b hb).2 (fun e => by
    rcases e with e | e
    · exact h.ne b e hb
    · obtain ⟨cs, hc⟩ := row_kindT h.v e
      obtain ⟨cs', hc'⟩ := row_kindT h.s hb
      rw [hc] at hc'
      simp only [Option.some.injEq, Obj.cells.injEq] at hc'
      exact absurd hc'.2.1 (by decide))
  refine ⟨hx2, h.low, rk hV (by decide), rk hF (by decide), rk hs (by decide), fun b hb e => ?_, ?_, Nat.le_trans (Nat.le_trans h.size O.size) o2.size, h.base, h.cI, fun z hz => ?_⟩
  · rcases fr b hb with h1 | h1
    · exact h.ne b h1 e
    · have := (h.s.lt b e).2
      omega
  · exact o2.below (O.below h.bel (fun b hb => (h.lt hb).2) h.size) (fun b hb => by subst hb; exact h.low) (Nat.le_trans h.size O.size)
  · rcases List.mem_append.1 hz with hz | hz
    · exact h.vI z hz
    · rw [List.mem_singleton] at hz
      subst hz
      exact hy
theorem two_kinds {w : World} {b : Nat} {T T2 : TypeId} (hT : T ≠ T2) (h1 : ∃ cs, w.heap[b]? = some (.cells cs T (0, 0))) (h2 : ∃ cs, w.heap[b]? = some (.cells cs T2 (0, 0))) : False := by
  obtain ⟨cs, h1⟩ := h1
  obtain ⟨cs', h2⟩ := h2
  rw [h1] at h2
  simp only [Option.some.injEq, Obj.cells.injEq] at h2
  exact hT h2.2.1
theorem src_vote {u : World} {q : Nat} {y : VoteW} (h : u.heap[q]? = some (.cells (vcell y).toArray 40 (0, 0))) (hc : y.c.oneCell' = true) : Src Try.prog 7 36 (.slice (some ⟨q, 0, none⟩) 1 1) 1 (vcell y) u :=
  Src.ofSlice _ Try.underlying36 ⟨q, 0, none⟩ 1 1 (vcell y) rfl
    (fun j z hz => by
      rw [Addr.add_lit, Nat.zero_add]
      simp only [World.cell?, h]
      simpa using hz)
    (by intro z hz; simp [vcell] at hz; rcases hz with rfl | rfl | rfl | rfl | rfl | rfl | rfl <;> first | rfl | exact hc)
theorem src_intT {u : World} {q : Nat} {x : Int} (h : u.heap[q]? = some (.cells #[.int .i64 x] 3 (0, 0))) : Src Try.prog 1 24 (.slice (some ⟨q, 0, none⟩) 1 1) 1 (intCells [x]) u :=
  csrc (B := q + 1) (L := [x]) ⟨_, _, rfl, Nat.le_refl _, by decide, fun e => (by cases e), fun _ => ⟨_, _, rfl, Nat.lt_succ_self _, fun j hj => by
    obtain rfl : j = 0 := by simpa using hj
    rw [Nat.zero_add]
    exact cell_of_one h⟩⟩

set_option maxRecDepth 100000 in
set_option maxHeartbeats 16000000 in
theorem rypro_r {n : Nat} {w0 w : World} {X : Nat} {vv fv sv : Value} {d : RefV} (h : RTal n w0 X vv fv sv d w) (hlF : d.F.length ≤ 1000) (hlV : d.V.length ≤ 1000) (x : Int) (v : VoteV) (vc : Value) (hIn : Ints w0 n vc v.C) (hlim : v.C.length ≤ 1000000) {R : Bool} (hR : ryP d x v = R) :
    Calls Try.prog 15 #[.pointer (some ⟨X, 0, none⟩), .int .i64 x, .agg #[.int .i64 v.pr, .int .i64 v.pn, .int .i64 v.ar, .int .i64 v.an, .bool v.has, .int .i64 v.ce, vc]] w fun e w' => e = .returned (.bool R) ∧ Hid (ProPost n w0 X vv fv sv (proD d x ⟨v, vc⟩ R) w w') := by
  obtain ⟨pr, pn, ar, an, has, vce, C⟩ := v
  simp only at hIn hlim ⊢
  obtain ⟨a0, c0, rfl⟩ : ∃ a c, vc = .slice a C.length c := by obtain ⟨a, c, h, _⟩ := hIn; exact ⟨a, c, h⟩
  obtain ⟨m, hm⟩ : ∃ m, m = C.length := ⟨_, rfl⟩
  obtain ⟨fa, fc, hfe⟩ := own_shape h.f
  obtain ⟨va, vc, hve⟩ := own_shape h.v
  subst hfe hve
  obtain ⟨lf, hlf⟩ : ∃ l, l = d.F.length := ⟨_, rfl⟩
  obtain ⟨lv, hlv⟩ : ∃ l, l = d.V.length := ⟨_, rfl⟩
  obtain ⟨N, hN⟩ : ∃ N, N = d.n := ⟨_, rfl⟩
  obtain ⟨D, hD⟩ : ∃ D, D = decide (x ∈ d.F) := ⟨_, rfl⟩
  obtain ⟨Q, hQ⟩ : ∃ Q, Q = !decide (pr = d.r ∧ pn = d.k) := ⟨_, rfl⟩
  obtain ⟨M, hM⟩ : ∃ M, M = mayV ar an := ⟨_, rfl⟩
  obtain ⟨Y, hY⟩ : ∃ Y, Y = decide (ChainV.may ⟨vce, C⟩) := ⟨_, rfl⟩
  obtain ⟨E, hE⟩ : ∃ E, E = decide (vce = d.ce) := ⟨_, rfl⟩
  have hRR : R = (decide (0 ≤ x ∧ x < N) && !D && (!Q && (!has || (M && (Y && E))))) := by
    rw [← hR, hN, hD, hQ, hM, hY, hE]
    unfold ryP
    congr 1
    cases has <;> cases mayV ar an <;> simp [Bool.decide_and]
  obtain ⟨W, hW⟩ : ∃ W, W = w.alloc (.cells #[.int .i64 pr, .int .i64 pn, .int .i64 ar, .int .i64 an, .bool has, .int .i64 vce, .slice a0 m c0] 40) := ⟨_, rfl⟩
  have hB0 : Below w.heap.size w W := by rw [hW]; exact (Below.refl _ w).alloc (Nat.le_refl _) _
  have hvW : VotB W w.heap.size ⟨pr, pn, ar, an, has, vce, C⟩ (.slice a0 m c0) := by rw [hW]; exact VotB.fresh w ⟨pr, pn, ar, an, has, vce, C⟩ _
  have HNE : Hid (∀ u : World, (binOp .neq 23 (.agg #[.int .i64 pr, .int .i64 pn]) (.agg #[.int .i64 d.r, .int .i64 d.k])).run Try.prog u = .ok (.bool Q) u) := fun u => by rw [hQ]; exact run_ne_bal pr pn d.r d.k u
  have HHA : Hid (∀ u, Below W.heap.size W u → Calls Try.prog 34 #[.slice fa lf fc, .int .i64 x] u fun e w' => e = .returned (.bool D) ∧ Below u.heap.size u w') := fun u hu => by
    rw [hlf]
    exact (ryhas_r _ d.F x u.heap.size u (ints_own ((h.on hB0).on hu).f (Nat.le_refl _)) (by omega) hD.symm).mono fun e w' ⟨he, hw⟩ => ⟨he, hw ▸ Below.refl _ _⟩
  have HM : Hid (∀ u, Calls Try.prog 10 #[.agg #[.int .i64 ar, .int .i64 an]] u fun e w' => e = .returned (.bool M) ∧ Below u.heap.size u w') := fun u => rvmay_r ar an u hM.symm
  have HY : Hid (∀ u, Below W.heap.size W u → Calls Try.prog 11 #[.agg #[.int .i64 vce, .slice a0 m c0]] u fun e w' => e = .returned (.bool Y) ∧ Below u.heap.size u w') := fun u hu => by
    rw [hm]
    exact refmaychain_r vce _ C n u (hIn.keep ((h.on hB0).on hu).bel) ((h.on hB0).on hu).size Y hY
  have FX : Hid (∀ u, Below W.heap.size W u → (u.cell? ⟨w.heap.size, 0, none⟩ = some (.int .i64 pr) ∧ u.cell? ⟨w.heap.size, 1, none⟩ = some (.int .i64 pn) ∧ u.cell? ⟨w.heap.size, 2, none⟩ = some (.int .i64 ar) ∧ u.cell? ⟨w.heap.size, 3, none⟩ = some (.int .i64 an) ∧ u.cell? ⟨w.heap.size, 4, none⟩ = some (.bool has) ∧ u.cell? ⟨w.heap.size, 5, none⟩ = some (.int .i64 vce) ∧ u.cell? ⟨w.heap.size, 6, none⟩ = some (.slice a0 m c0)) ∧
      u.cell? ⟨X, 0, none⟩ = some (.int .i64 N) ∧ u.cell? ⟨X, 1, none⟩ = some (.int .i64 d.r) ∧ u.cell? ⟨X, 2, none⟩ = some (.int .i64 d.k) ∧ u.cell? ⟨X, 3, none⟩ = some (.int .i64 d.ce) ∧ u.cell? ⟨X, 6, none⟩ = some (.slice fa lf fc)) := fun u hu => by
    have c := ((h.on hB0).on hu).b.cells
    rw [hN, hlf]
    exact ⟨(hvW.keep hu hvW.lt).cells, c.1, c.2.1, c.2.2.1, c.2.2.2.1, c.2.2.2.2.2.2.1⟩
  have P0 : Hid (Below W.heap.size W W.drew) := (Below.refl _ _).drew
  have HE : Hid (E = false → (vce != d.ce) = true) := fun he => by rw [hE] at he; simpa using he
  have HE2 : Hid (E = true → (vce != d.ce) = false) := fun he => by rw [hE] at he; simpa using he
  have HH := Lib.hid h
  have HB := Lib.hid hB0
  have HV := Lib.hid hvW
  have HRR := Lib.hid hRR
  have HLF := Lib.hid hlf
  have HLV := Lib.hid hlv
  have HFB := Lib.hid hlF
  have HVB := Lib.hid hlV
  have HIN := Lib.hid hIn
  have HML := Lib.hid hm
  obtain ⟨i0, hi, hz0, hz1, hz2⟩ := info_parts info_intR
  obtain ⟨j0, ji, jz0, jz1, jz2⟩ := info_parts info_Vote
  rw [← hm]
  clear h hIn hlim hlF hlV hR hRR hm hlf hlv hN hD hQ hM hY hE hB0 hvW
  go_enter Try.func15, Try.ntmps15
  go_wp2_with fail
  rw [← hW]
  clear hW
  go_cut [60] (fun s60 wc => s60 = .bool (!R) ∧ Hid (Below W.heap.size W wc))
  case first =>
    as_aux_lemma =>
      by_cases g1 : x < 0
      · have d1 : decide (x < 0) = true := decide_eq_true g1
        obtain rfl : R = false := by rw [HRR.out]; rw [decide_eq_false (p := 0 ≤ x ∧ x < N) (by omega)]; rfl
        refine region_quiet (fun v => Below W.heap.size W v) (by kernel_rfl) (by kernel_rfl) P0.out ?_
        repeat (first
          | go_big_quiet_skip
          | (go_big_quiet_want
             (first
              | (refine quiet_run (v := ?_) ?_ ?_; rotate_left; (intro u hu; obtain ⟨⟨b0, b1, b2, b3, b4, b5, b6⟩, e0, e1, e2, e3, e6⟩ := FX.out u hu; go_simp <;> with_reducible rfl); simp only [Act.put, List.setIfInBounds_toArray, List.set_cons_zero, List.set_cons_succ]; go_big_quiet_on)
        )))
        refine wpQuiet_nil ?_
        intro w4 h4
        go_wp2_with fail
        go_meet
        case rel => exact ⟨by first | rfl | trivial, h4⟩
      have d1 : decide (x < 0) = false := decide_eq_false g1
      by_cases g2 : N ≤ x
      · have d2 : decide (N ≤ x) = true := decide_eq_true g2
        obtain rfl : R = false := by rw [HRR.out]; rw [decide_eq_false (p := 0 ≤ x ∧ x < N) (by omega)]; rfl
        refine region_quiet (fun v => Below W.heap.size W v) (by kernel_rfl) (by kernel_rfl) P0.out ?_
        repeat (first
          | go_big_quiet_skip
          | (go_big_quiet_want
             (first
              | (refine quiet_run (v := ?_) ?_ ?_; rotate_left; (intro u hu; obtain ⟨⟨b0, b1, b2, b3, b4, b5, b6⟩, e0, e1, e2, e3, e6⟩ := FX.out u hu; go_simp <;> with_reducible rfl); simp only [Act.put, List.setIfInBounds_toArray, List.set_cons_zero, List.set_cons_succ]; go_big_quiet_on)
        )))
        refine wpQuiet_nil ?_
        intro w4 h4
        go_wp2_with fail
        go_meet
        case rel => exact ⟨by first | rfl | trivial, h4⟩
      have d2 : decide (N ≤ x) = false := decide_eq_false g2
      cases D with
      | true =>
        obtain rfl : R = false := by rw [HRR.out]; rw [decide_eq_true (p := 0 ≤ x ∧ x < N) (by omega)]; rfl
        refine region_quiet (fun v => Below W.heap.size W v) (by kernel_rfl) (by kernel_rfl) P0.out ?_
        repeat (first
          | go_big_quiet_skip
          | (go_big_quiet_want
             (first
              | (refine quiet_run (v := ?_) ?_ ?_; rotate_left; (intro u hu; obtain ⟨⟨b0, b1, b2, b3, b4, b5, b6⟩, e0, e1, e2, e3, e6⟩ := FX.out u hu; go_simp <;> with_reducible rfl); simp only [Act.put, List.setIfInBounds_toArray, List.set_cons_zero, List.set_cons_succ]; go_big_quiet_on)
              | (refine quiet_enter 34 _ ?_ (fun u hu => (HHA.out u hu).mono fun e u' ⟨he, hb⟩ => ⟨he, hu.trans (hb.mono hu.size)⟩) ?_; (focus (intro u; first | (go_simp; done) | (go_simp; with_reducible rfl))); simp only [Act.put, List.setIfInBounds_toArray, List.set_cons_zero, List.set_cons_succ]; go_big_quiet_on))))
        refine wpQuiet_nil ?_
        intro w4 h4
        go_wp2_with fail
        go_meet
        case rel => exact ⟨by first | rfl | trivial, h4⟩
      | false =>
        cases Q with
        | true =>
          obtain rfl : R = false := by rw [HRR.out]; rw [decide_eq_true (p := 0 ≤ x ∧ x < N) (by omega)]; rfl
          refine region_quiet (fun v => Below W.heap.size W v) (by kernel_rfl) (by kernel_rfl) P0.out ?_
          repeat (first
            | go_big_quiet_skip
            | (go_big_quiet_want
               (first
                | (refine quiet_run (v := ?_) ?_ ?_; rotate_left; (intro u hu; obtain ⟨⟨b0, b1, b2, b3, b4, b5, b6⟩, e0, e1, e2, e3, e6⟩ := FX.out u hu; go_simp <;> with_reducible rfl); simp only [Act.put, List.setIfInBounds_toArray, List.set_cons_zero, List.set_cons_succ]; go_big_quiet_on)
                | (refine quiet_enter 34 _ ?_ (fun u hu => (HHA.out u hu).mono fun e u' ⟨he, hb⟩ => ⟨he, hu.trans (hb.mono hu.size)⟩) ?_; (focus (intro u; first | (go_simp; done) | (go_simp; with_reducible rfl))); simp only [Act.put, List.setIfInBounds_toArray, List.set_cons_zero, List.set_cons_succ]; go_big_quiet_on)
                | (refine quiet_run (v := .bool _) (fun u _ => exec_neq_agg _ _ (by kernel_rfl) rfl rfl rfl (HNE.out u)) ?_; simp only [Act.put, List.setIfInBounds_toArray, List.set_cons_zero, List.set_cons_succ]; go_big_quiet_on))))
          refine wpQuiet_nil ?_
          intro w4 h4
          go_wp2_with fail
          go_meet
          case rel => exact ⟨by first | rfl | trivial, h4⟩
        | false =>
          cases has with
          | false =>
            obtain rfl : R = true := by rw [HRR.out]; rw [decide_eq_true (p := 0 ≤ x ∧ x < N) (by omega)]; rfl
            refine region_quiet (fun v => Below W.heap.size W v) (by kernel_rfl) (by kernel_rfl) P0.out ?_
            repeat (first
              | go_big_quiet_skip
              | (go_big_quiet_want
                 (first
                  | (refine quiet_run (v := ?_) ?_ ?_; rotate_left; (intro u hu; obtain ⟨⟨b0, b1, b2, b3, b4, b5, b6⟩, e0, e1, e2, e3, e6⟩ := FX.out u hu; go_simp <;> with_reducible rfl); simp only [Act.put, List.setIfInBounds_toArray, List.set_cons_zero, List.set_cons_succ]; go_big_quiet_on)
                  | (refine quiet_enter 34 _ ?_ (fun u hu => (HHA.out u hu).mono fun e u' ⟨he, hb⟩ => ⟨he, hu.trans (hb.mono hu.size)⟩) ?_; (focus (intro u; first | (go_simp; done) | (go_simp; with_reducible rfl))); simp only [Act.put, List.setIfInBounds_toArray, List.set_cons_zero, List.set_cons_succ]; go_big_quiet_on)
                  | (refine quiet_run (v := .bool _) (fun u _ => exec_neq_agg _ _ (by kernel_rfl) rfl rfl rfl (HNE.out u)) ?_; simp only [Act.put, List.setIfInBounds_toArray, List.set_cons_zero, List.set_cons_succ]; go_big_quiet_on))))
            refine wpQuiet_nil ?_
            intro w4 h4
            go_wp2_with fail
            go_meet
            case rel => exact ⟨by first | rfl | trivial, h4⟩
          | true =>
            cases M with
            | false =>
              obtain rfl : R = false := by rw [HRR.out]; rw [decide_eq_true (p := 0 ≤ x ∧ x < N) (by omega)]; rfl
              refine region_quiet (fun v => Below W.heap.size W v) (by kernel_rfl) (by kernel_rfl) P0.out ?_
              repeat (first
                | go_big_quiet_skip
                | (go_big_quiet_want
                   (first
                    | (refine quiet_run (v := ?_) ?_ ?_; rotate_left; (intro u hu; obtain ⟨⟨b0, b1, b2, b3, b4, b5, b6⟩, e0, e1, e2, e3, e6⟩ := FX.out u hu; go_simp <;> with_reducible rfl); simp only [Act.put, List.setIfInBounds_toArray, List.set_cons_zero, List.set_cons_succ]; go_big_quiet_on)
                    | (refine quiet_enter 34 _ ?_ (fun u hu => (HHA.out u hu).mono fun e u' ⟨he, hb⟩ => ⟨he, hu.trans (hb.mono hu.size)⟩) ?_; (focus (intro u; first | (go_simp; done) | (go_simp; with_reducible rfl))); simp only [Act.put, List.setIfInBounds_toArray, List.set_cons_zero, List.set_cons_succ]; go_big_quiet_on)
                    | (refine quiet_enter 10 _ ?_ (fun u hu => (HM.out u).mono fun e u' ⟨he, hb⟩ => ⟨he, hu.trans (hb.mono hu.size)⟩) ?_; (focus (intro u; first | (go_simp; done) | (go_simp; with_reducible rfl))); simp only [Act.put, List.setIfInBounds_toArray, List.set_cons_zero, List.set_cons_succ]; go_big_quiet_on)
                    | (refine quiet_run (v := .bool _) (fun u _ => exec_neq_agg _ _ (by kernel_rfl) rfl rfl rfl (HNE.out u)) ?_; simp only [Act.put, List.setIfInBounds_toArray, List.set_cons_zero, List.set_cons_succ]; go_big_quiet_on))))
              refine wpQuiet_nil ?_
              intro w4 h4
              go_wp2_with fail
              go_meet
              case rel => exact ⟨by first | rfl | trivial, h4⟩
            | true =>
              cases Y with
              | false =>
                obtain rfl : R = false := by rw [HRR.out]; rw [decide_eq_true (p := 0 ≤ x ∧ x < N) (by omega)]; rfl
                refine region_quiet (fun v => Below W.heap.size W v) (by kernel_rfl) (by kernel_rfl) P0.out ?_
                repeat (first
                  | go_big_quiet_skip
                  | (go_big_quiet_want
                     (first
                      | (refine quiet_run (v := ?_) ?_ ?_; rotate_left; (intro u hu; obtain ⟨⟨b0, b1, b2, b3, b4, b5, b6⟩, e0, e1, e2, e3, e6⟩ := FX.out u hu; go_simp <;> with_reducible rfl); simp only [Act.put, List.setIfInBounds_toArray, List.set_cons_zero, List.set_cons_succ]; go_big_quiet_on)
                      | (refine quiet_enter 34 _ ?_ (fun u hu => (HHA.out u hu).mono fun e u' ⟨he, hb⟩ => ⟨he, hu.trans (hb.mono hu.size)⟩) ?_; (focus (intro u; first | (go_simp; done) | (go_simp; with_reducible rfl))); simp only [Act.put, List.setIfInBounds_toArray, List.set_cons_zero, List.set_cons_succ]; go_big_quiet_on)
                      | (refine quiet_enter 10 _ ?_ (fun u hu => (HM.out u).mono fun e u' ⟨he, hb⟩ => ⟨he, hu.trans (hb.mono hu.size)⟩) ?_; (focus (intro u; first | (go_simp; done) | (go_simp; with_reducible rfl))); simp only [Act.put, List.setIfInBounds_toArray, List.set_cons_zero, List.set_cons_succ]; go_big_quiet_on)
                      | (refine quiet_enter 11 _ ?_ (fun u hu => (HY.out u hu).mono fun e u' ⟨he, hb⟩ => ⟨he, hu.trans (hb.mono hu.size)⟩) ?_; (focus (intro u; first | (go_simp; done) | (go_simp; with_reducible rfl))); simp only [Act.put, List.setIfInBounds_toArray, List.set_cons_zero, List.set_cons_succ]; go_big_quiet_on)
                      | (refine quiet_run (v := .bool _) (fun u _ => exec_neq_agg _ _ (by kernel_rfl) rfl rfl rfl (HNE.out u)) ?_; simp only [Act.put, List.setIfInBounds_toArray, List.set_cons_zero, List.set_cons_succ]; go_big_quiet_on))))
                refine wpQuiet_nil ?_
                intro w4 h4
                go_wp2_with fail
                go_meet
                case rel => exact ⟨by first | rfl | trivial, h4⟩
              | true =>
                cases E with
                | false =>
                  have d4 := HE.out rfl
                  obtain rfl : R = false := by rw [HRR.out]; rw [decide_eq_true (p := 0 ≤ x ∧ x < N) (by omega)]; rfl
                  refine region_quiet (fun v => Below W.heap.size W v) (by kernel_rfl) (by kernel_rfl) P0.out ?_
                  repeat (first
                    | go_big_quiet_skip
                    | (go_big_quiet_want
                       (first
                        | (refine quiet_run (v := ?_) ?_ ?_; rotate_left; (intro u hu; obtain ⟨⟨b0, b1, b2, b3, b4, b5, b6⟩, e0, e1, e2, e3, e6⟩ := FX.out u hu; go_simp <;> with_reducible rfl); simp only [Act.put, List.setIfInBounds_toArray, List.set_cons_zero, List.set_cons_succ]; go_big_quiet_on)
                        | (refine quiet_enter 34 _ ?_ (fun u hu => (HHA.out u hu).mono fun e u' ⟨he, hb⟩ => ⟨he, hu.trans (hb.mono hu.size)⟩) ?_; (focus (intro u; first | (go_simp; done) | (go_simp; with_reducible rfl))); simp only [Act.put, List.setIfInBounds_toArray, List.set_cons_zero, List.set_cons_succ]; go_big_quiet_on)
                        | (refine quiet_enter 10 _ ?_ (fun u hu => (HM.out u).mono fun e u' ⟨he, hb⟩ => ⟨he, hu.trans (hb.mono hu.size)⟩) ?_; (focus (intro u; first | (go_simp; done) | (go_simp; with_reducible rfl))); simp only [Act.put, List.setIfInBounds_toArray, List.set_cons_zero, List.set_cons_succ]; go_big_quiet_on)
                        | (refine quiet_enter 11 _ ?_ (fun u hu => (HY.out u hu).mono fun e u' ⟨he, hb⟩ => ⟨he, hu.trans (hb.mono hu.size)⟩) ?_; (focus (intro u; first | (go_simp; done) | (go_simp; with_reducible rfl))); simp only [Act.put, List.setIfInBounds_toArray, List.set_cons_zero, List.set_cons_succ]; go_big_quiet_on)
                        | (refine quiet_run (v := .bool _) (fun u _ => exec_neq_agg _ _ (by kernel_rfl) rfl rfl rfl (HNE.out u)) ?_; simp only [Act.put, List.setIfInBounds_toArray, List.set_cons_zero, List.set_cons_succ]; go_big_quiet_on))))
                  refine wpQuiet_nil ?_
                  intro w4 h4
                  go_wp2_with fail
                  go_meet
                  case rel => exact ⟨by first | rfl | trivial, h4⟩
                | true =>
                  have d4 := HE2.out rfl
                  obtain rfl : R = true := by rw [HRR.out]; rw [decide_eq_true (p := 0 ≤ x ∧ x < N) (by omega)]; rfl
                  refine region_quiet (fun v => Below W.heap.size W v) (by kernel_rfl) (by kernel_rfl) P0.out ?_
                  repeat (first
                    | go_big_quiet_skip
                    | (go_big_quiet_want
                       (first
                        | (refine quiet_run (v := ?_) ?_ ?_; rotate_left; (intro u hu; obtain ⟨⟨b0, b1, b2, b3, b4, b5, b6⟩, e0, e1, e2, e3, e6⟩ := FX.out u hu; go_simp <;> with_reducible rfl); simp only [Act.put, List.setIfInBounds_toArray, List.set_cons_zero, List.set_cons_succ]; go_big_quiet_on)
                        | (refine quiet_enter 34 _ ?_ (fun u hu => (HHA.out u hu).mono fun e u' ⟨he, hb⟩ => ⟨he, hu.trans (hb.mono hu.size)⟩) ?_; (focus (intro u; first | (go_simp; done) | (go_simp; with_reducible rfl))); simp only [Act.put, List.setIfInBounds_toArray, List.set_cons_zero, List.set_cons_succ]; go_big_quiet_on)
                        | (refine quiet_enter 10 _ ?_ (fun u hu => (HM.out u).mono fun e u' ⟨he, hb⟩ => ⟨he, hu.trans (hb.mono hu.size)⟩) ?_; (focus (intro u; first | (go_simp; done) | (go_simp; with_reducible rfl))); simp only [Act.put, List.setIfInBounds_toArray, List.set_cons_zero, List.set_cons_succ]; go_big_quiet_on)
                        | (refine quiet_enter 11 _ ?_ (fun u hu => (HY.out u hu).mono fun e u' ⟨he, hb⟩ => ⟨he, hu.trans (hb.mono hu.size)⟩) ?_; (focus (intro u; first | (go_simp; done) | (go_simp; with_reducible rfl))); simp only [Act.put, List.setIfInBounds_toArray, List.set_cons_zero, List.set_cons_succ]; go_big_quiet_on)
                        | (refine quiet_run (v := .bool _) (fun u _ => exec_neq_agg _ _ (by kernel_rfl) rfl rfl rfl (HNE.out u)) ?_; simp only [Act.put, List.setIfInBounds_toArray, List.set_cons_zero, List.set_cons_succ]; go_big_quiet_on))))
                  refine wpQuiet_nil ?_
                  intro w4 h4
                  go_wp2_with fail
                  go_meet
                  case rel => exact ⟨by first | rfl | trivial, h4⟩
  case rest =>
    obtain ⟨rfl, HC4⟩ := hcut
    have H4 := Lib.hid (HH.out.on (HB.out.trans (HC4.out.mono HB.out.size)))
    have V4 := Lib.hid (HV.out.keep HC4.out HV.out.lt)
    have HSW : Hid (w.heap.size ≤ wc.heap.size) := by have := HB.out.size; have := HC4.out.size; show _ ≤ _; omega
    have HXL : Hid (X < w.heap.size) := HH.out.b.lt
    have HBW : Hid (Below w.heap.size w wc) := HB.out.trans (HC4.out.mono HB.out.size)
    have HLT : Hid (∀ b, SS (.slice fa d.F.length fc) (.slice va d.V.length vc) b → b < w.heap.size) := fun b hb => (HH.out.lt hb).1
    clear HNE HHA HM HY FX P0 HE HE2 HRR
    cases R with
    | false =>
      go_wp2
      go_returns
      exact ⟨by first | rfl | trivial, _, _, H4.out, fun _ hb => .inl hb, .of HBW.out⟩
    | true =>
      go_wp2_with fail
      have HS : Hid (∀ u, Only (SS (.slice fa d.F.length fc) (.slice va d.V.length vc)) wc u → (fun u => u.cell? ⟨w.heap.size, 0, none⟩ = some (.int .i64 pr) ∧ u.cell? ⟨w.heap.size, 1, none⟩ = some (.int .i64 pn) ∧ u.cell? ⟨w.heap.size, 2, none⟩ = some (.int .i64 ar) ∧ u.cell? ⟨w.heap.size, 3, none⟩ = some (.int .i64 an) ∧ u.cell? ⟨w.heap.size, 4, none⟩ = some (.bool has) ∧ u.cell? ⟨w.heap.size, 5, none⟩ = some (.int .i64 vce) ∧ u.cell? ⟨w.heap.size, 6, none⟩ = some (.slice a0 m c0)) u) := fun u hu => by
        have hv : VotB u w.heap.size ⟨pr, pn, ar, an, has, vce, C⟩ (.slice a0 m c0) := (hu.block _ V4.out.lt (fun e => by have := HLT.out _ e; omega)).trans V4.out
        exact hv.cells
      have HX : Hid (∀ u, Only (SS (.slice fa d.F.length fc) (.slice va d.V.length vc)) wc u → RTB u X (.slice va d.V.length vc) (.slice fa d.F.length fc) sv d) := fun u hu => (hu.block X H4.out.b.lt H4.out.notX).trans H4.out.b
      have HENDX : Hid (∀ (N : World) (fv2 vv2 : Value), Only (SS (.slice fa d.F.length fc) (.slice va d.V.length vc)) wc N → N.ownsRow n 3 1 fv2 (lf + 1) (intCells d.F ++ intCells [x]) → N.ownsRow n 40 7 vv2 (lv + 1) (vcells d.V ++ vcell ⟨⟨pr, pn, ar, an, has, vce, C⟩, .slice a0 m c0⟩) → (∀ b, fv2.ownBlock = some b → (Value.slice fa d.F.length fc).ownBlock = some b ∨ wc.heap.size ≤ b) → RTal n w0 X vv2 fv2 sv (proD d x ⟨⟨pr, pn, ar, an, has, vce, C⟩, .slice a0 m c0⟩ true) ((N.setCell ⟨X, 6, none⟩ fv2).setCell ⟨X, 5, none⟩ vv2)) := fun N fv2 vv2 hO hF hV hfr => by
        rw [cells_app] at hF
        rw [vcells_snoc] at hV
        exact rypro_end H4.out hO (by rw [List.length_append, ← HLF.out]; exact hF) (by rw [List.length_append, ← HLV.out]; exact hV) hfr (by show Ints w0 n (.slice a0 m c0) C; rw [HML.out]; exact HIN.out)
      refine wp_region_held_drew (S := (fun u => u.cell? ⟨w.heap.size, 0, none⟩ = some (.int .i64 pr) ∧ u.cell? ⟨w.heap.size, 1, none⟩ = some (.int .i64 pn) ∧ u.cell? ⟨w.heap.size, 2, none⟩ = some (.int .i64 ar) ∧ u.cell? ⟨w.heap.size, 3, none⟩ = some (.int .i64 an) ∧ u.cell? ⟨w.heap.size, 4, none⟩ = some (.bool has) ∧ u.cell? ⟨w.heap.size, 5, none⟩ = some (.int .i64 vce) ∧ u.cell? ⟨w.heap.size, 6, none⟩ = some (.slice a0 m c0))) (by kernel_rfl) (HS.out _ ⟨rfl, rfl, rfl, Nat.le_refl _, fun _ _ _ => rfl⟩) (fun hHeld => ?_)
      first
        | (refine held_take 0 61 (v := ?_) rfl rfl (by kernel_rfl) (by kernel_rfl) (by kernel_rfl) (fun _ _ _ h => h) (by assumption) (by rfl) ?_ ?_; rotate_left; (focus (intro w hSw; obtain ⟨hS0, hS1, hS2, hS3, hS4, hS5, hS6⟩ := hSw; go_simp <;> with_reducible rfl)))
        | refine held_pass 0 61 rfl rfl (by kernel_rfl) (by kernel_rfl) (by kernel_rfl) (fun _ _ _ h => h) (by assumption) (by rfl) ?_
      simp only [Act.put, List.setIfInBounds_toArray, List.set_cons_zero, List.set_cons_succ]
      first
        | (refine held_take 1 62 (v := ?_) rfl rfl (by kernel_rfl) (by kernel_rfl) (by kernel_rfl) (fun _ _ _ h => h) (by assumption) (by rfl) ?_ ?_; rotate_left; (focus (intro w hSw; obtain ⟨hS0, hS1, hS2, hS3, hS4, hS5, hS6⟩ := hSw; go_simp <;> with_reducible rfl)))
        | refine held_pass 1 62 rfl rfl (by kernel_rfl) (by kernel_rfl) (by kernel_rfl) (fun _ _ _ h => h) (by assumption) (by rfl) ?_
      simp only [Act.put, List.setIfInBounds_toArray, List.set_cons_zero, List.set_cons_succ]
      first
        | (refine held_take 2 63 (v := ?_) rfl rfl (by kernel_rfl) (by kernel_rfl) (by kernel_rfl) (fun _ _ _ h => h) (by assumption) (by rfl) ?_ ?_; rotate_left; (focus (intro w hSw; obtain ⟨hS0, hS1, hS2, hS3, hS4, hS5, hS6⟩ := hSw; go_simp <;> with_reducible rfl)))
        | refine held_pass 2 63 rfl rfl (by kernel_rfl) (by kernel_rfl) (by kernel_rfl) (fun _ _ _ h => h) (by assumption) (by rfl) ?_
      simp only [Act.put, List.setIfInBounds_toArray, List.set_cons_zero, List.set_cons_succ]
      first
        | (refine held_take 3 64 (v := ?_) rfl rfl (by kernel_rfl) (by kernel_rfl) (by kernel_rfl) (fun _ _ _ h => h) (by assumption) (by rfl) ?_ ?_; rotate_left; (focus (intro w hSw; obtain ⟨hS0, hS1, hS2, hS3, hS4, hS5, hS6⟩ := hSw; go_simp <;> with_reducible rfl)))
        | refine held_pass 3 64 rfl rfl (by kernel_rfl) (by kernel_rfl) (by kernel_rfl) (fun _ _ _ h => h) (by assumption) (by rfl) ?_
      simp only [Act.put, List.setIfInBounds_toArray, List.set_cons_zero, List.set_cons_succ]
      first
        | (refine held_take 4 65 (v := ?_) rfl rfl (by kernel_rfl) (by kernel_rfl) (by kernel_rfl) (fun _ _ _ h => h) (by assumption) (by rfl) ?_ ?_; rotate_left; (focus (intro w hSw; obtain ⟨hS0, hS1, hS2, hS3, hS4, hS5, hS6⟩ := hSw; go_simp <;> with_reducible rfl)))
        | refine held_pass 4 65 rfl rfl (by kernel_rfl) (by kernel_rfl) (by kernel_rfl) (fun _ _ _ h => h) (by assumption) (by rfl) ?_
      simp only [Act.put, List.setIfInBounds_toArray, List.set_cons_zero, List.set_cons_succ]
      first
        | (refine held_take 6 67 (v := ?_) rfl rfl (by kernel_rfl) (by kernel_rfl) (by kernel_rfl) (fun _ _ _ h => h) (by assumption) (by rfl) ?_ ?_; rotate_left; (focus (intro w hSw; obtain ⟨hS0, hS1, hS2, hS3, hS4, hS5, hS6⟩ := hSw; go_simp <;> with_reducible rfl)))
        | refine held_pass 6 67 rfl rfl (by kernel_rfl) (by kernel_rfl) (by kernel_rfl) (fun _ _ _ h => h) (by assumption) (by rfl) ?_
      simp only [Act.put, List.setIfInBounds_toArray, List.set_cons_zero, List.set_cons_succ]
      first
        | (refine held_take 9 70 (v := ?_) rfl rfl (by kernel_rfl) (by kernel_rfl) (by kernel_rfl) (fun _ _ _ h => h) (by assumption) (by rfl) ?_ ?_; rotate_left; (focus (intro w hSw; obtain ⟨hS0, hS1, hS2, hS3, hS4, hS5, hS6⟩ := hSw; go_simp <;> with_reducible rfl)))
        | refine held_pass 9 70 rfl rfl (by kernel_rfl) (by kernel_rfl) (by kernel_rfl) (fun _ _ _ h => h) (by assumption) (by rfl) ?_
      simp only [Act.put, List.setIfInBounds_toArray, List.set_cons_zero, List.set_cons_succ]
      first
        | (refine held_take 10 71 (v := ?_) rfl rfl (by kernel_rfl) (by kernel_rfl) (by kernel_rfl) (fun _ _ _ h => h) (by assumption) (by rfl) ?_ ?_; rotate_left; (focus (intro w hSw; obtain ⟨hS0, hS1, hS2, hS3, hS4, hS5, hS6⟩ := hSw; go_simp <;> with_reducible rfl)))
        | refine held_pass 10 71 rfl rfl (by kernel_rfl) (by kernel_rfl) (by kernel_rfl) (fun _ _ _ h => h) (by assumption) (by rfl) ?_
      simp only [Act.put, List.setIfInBounds_toArray, List.set_cons_zero, List.set_cons_succ]
      first
        | (refine held_take 11 72 (v := ?_) rfl rfl (by kernel_rfl) (by kernel_rfl) (by kernel_rfl) (fun _ _ _ h => h) (by assumption) (by rfl) ?_ ?_; rotate_left; (focus (intro w hSw; obtain ⟨hS0, hS1, hS2, hS3, hS4, hS5, hS6⟩ := hSw; go_simp <;> with_reducible rfl)))
        | refine held_pass 11 72 rfl rfl (by kernel_rfl) (by kernel_rfl) (by kernel_rfl) (fun _ _ _ h => h) (by assumption) (by rfl) ?_
      simp only [Act.put, List.setIfInBounds_toArray, List.set_cons_zero, List.set_cons_succ]
      first
        | (refine held_take 13 74 (v := ?_) rfl rfl (by kernel_rfl) (by kernel_rfl) (by kernel_rfl) (fun _ _ _ h => h) (by assumption) (by rfl) ?_ ?_; rotate_left; (focus (intro w hSw; obtain ⟨hS0, hS1, hS2, hS3, hS4, hS5, hS6⟩ := hSw; go_simp <;> with_reducible rfl)))
        | refine held_pass 13 74 rfl rfl (by kernel_rfl) (by kernel_rfl) (by kernel_rfl) (fun _ _ _ h => h) (by assumption) (by rfl) ?_
      simp only [Act.put, List.setIfInBounds_toArray, List.set_cons_zero, List.set_cons_succ]
      obtain ⟨u0, hu0⟩ : ∃ u, u = wc.drew := ⟨_, rfl⟩
      rw [← hu0] at hHeld ⊢
      have Ou0 : Hid (Only (SS (.slice fa d.F.length fc) (.slice va d.V.length vc)) wc u0) := by rw [hu0]; exact ⟨rfl, rfl, rfl, Nat.le_refl _, fun _ _ _ => rfl⟩
      have Fu0 : Hid (u0.ownsRow n 3 1 (.slice fa lf fc) lf (intCells d.F)) := by have := H4.out.f; rw [← HLF.out] at this; rw [hu0]; exact this
      have Vu0 : Hid (u0.ownsRow n 40 7 (.slice va lv vc) lv (vcells d.V)) := by have := H4.out.v; rw [← HLV.out] at this; rw [hu0]; exact this
      clear hu0
      have hmk := True.intro
      refine wpAnyH_ready (rs := [5, 7, 12, 14]) (by kernel_rfl) (by simp) (AllReadyH.cons rfl (fun K hK => ?_) (AllReadyH.cons rfl (fun K hK => ?_) (AllReadyH.cons rfl (fun K hK => ?_) (AllReadyH.cons rfl (fun K hK => ?_) AllReadyH.nil))))
      have xc := (HX.out _ Ou0.out).cells
      rw [← HLF.out, ← HLV.out] at xc
      obtain ⟨_, _, _, _, _, x5, x6, _⟩ := xc
      try simp only [Go.wp_at_succ, Go.wp_at_zero]
      go_simp
      refine hK.out _ _ (HS.out _ Ou0.out) (fun hHeld => ?_)
      clear hK K x5 x6
      try simp only [Act.put, List.setIfInBounds_toArray, List.set_cons_zero, List.set_cons_succ]
      refine wpAnyH_ready (rs := [7, 12, 14]) (by kernel_rfl) (by simp) (AllReadyH.cons rfl (fun K hK => ?_) (AllReadyH.cons rfl (fun K hK => ?_) (AllReadyH.cons rfl (fun K hK => ?_) AllReadyH.nil)))
      try simp only [Go.wp_at_succ, Go.wp_at_zero]
      go_simp
      have bN : Below u0.heap.size u0 (u0.alloc (.cells #[.int .i64 x] 3)) := (Below.refl _ _).alloc (Nat.le_refl _) _
      refine hK.out _ _ (HS.out _ (Ou0.out.then (Only.of (S := fun _ => False) bN) (fun _ _ h => h.elim))) (fun hHeld => ?_)
      clear hK K
      try simp only [Act.put, List.setIfInBounds_toArray, List.set_cons_zero, List.set_cons_succ]
      obtain ⟨u1, hN⟩ : ∃ u, u = u0.alloc (.cells #[.int .i64 x] 3) := ⟨_, rfl⟩
      rw [← hN] at hHeld bN ⊢
      have Ou1 := Lib.hid (Ou0.out.then (Only.of (S := fun _ => False) bN) (fun _ _ h => h.elim))
      have Fu1 := Lib.hid (rowOn Fu0.out bN)
      have Vu1 := Lib.hid (rowOn Vu0.out bN)
      obtain ⟨q1, hq⟩ : ∃ q, q = u0.heap.size := ⟨_, rfl⟩
      have Q1u1 : Hid (u1.heap[q1]? = some (.cells #[.int .i64 x] 3 (0, 0))) := by rw [hN, hq]; exact heap_alloc_new u0 _
      rw [← hq]
      clear hN hq bN
      refine wpAnyH_ready (rs := [8, 12, 14]) (by kernel_rfl) (by simp) (AllReadyH.cons rfl (fun K hK => ?_) (AllReadyH.cons rfl (fun K hK => ?_) (AllReadyH.cons rfl (fun K hK => ?_) AllReadyH.nil)))
      refine stepAppAt rfl (.tmp 66) (.tmp 68) 24 24 rfl n 3 i0 (.int .i64 0) 1 8 Try.underlying24 hi hz0 hz1 hz2 rfl (.slice fa lf fc) lf (intCells d.F) rfl Fu1.out _ 1 (intCells [x]) rfl (src_intT Q1u1.out) ?c3 ?c4 ?c5 ?_
      case c3 => have := HLF.out; have := HFB.out; unfold maxLen; omega
      case c4 => have := HLF.out; have := HFB.out; omega
      case c5 => exact Nat.le_trans H4.out.size Ou1.out.size
      intro v1 u2 hown hgrow hfr
      obtain ⟨fa2, fc2, hve⟩ := own_shape hown
      subst hve
      rw [HLF.out] at hgrow
      have hoN : Only (SS (.slice fa d.F.length fc) (.slice va d.V.length vc)) u1 u2 := ⟨hgrow.os, hgrow.tape, hgrow.output, hgrow.size, fun k hk hne => hgrow.block k hk (fun e => hne (.inl e.symm))⟩
      have Ou2 := Lib.hid (Ou1.out.trans hoN)
      have Fu2 := Lib.hid hown
      have Vu2 : Hid (u2.ownsRow n 40 7 (.slice va lv vc) lv (vcells d.V)) := row_still Vu1.out fun b hb => hgrow.block b (Vu1.out.lt b hb).2 (fun e => two_kinds (T := 3) (T2 := 40) (by decide) (row_kindT (HLF.out ▸ Fu1.out) e.symm) (row_kindT Vu1.out hb))
      have FR : Hid (∀ b, (Value.slice fa2 (lf + 1) fc2).ownBlock = some b → (Value.slice fa d.F.length fc).ownBlock = some b ∨ wc.heap.size ≤ b) := fun b hb => by
        rcases hfr b hb with h | h
        · exact .inl (by rw [← HLF.out]; exact h)
        · exact .inr (Nat.le_trans Ou1.out.size h)
      clear hown hgrow hfr hoN
      refine hK.out _ _ (HS.out _ Ou2.out) (fun hHeld => ?_)
      clear hK K
      try simp only [Act.put]
      try simp only [List.setIfInBounds_toArray]
      refine wpAnyH_ready (rs := [12, 14]) (by kernel_rfl) (by simp) (AllReadyH.cons rfl (fun K hK => ?_) (AllReadyH.cons rfl (fun K hK => ?_) AllReadyH.nil))
      have xc := (HX.out _ Ou2.out).cells
      rw [← HLF.out, ← HLV.out] at xc
      obtain ⟨_, _, _, _, _, x5, x6, _⟩ := xc
      try simp only [Go.wp_at_succ, Go.wp_at_zero]
      go_simp
      refine hK.out _ _ (HS.out _ Ou2.out) (fun hHeld => ?_)
      clear hK K x5 x6
      try simp only [Act.put, List.setIfInBounds_toArray, List.set_cons_zero, List.set_cons_succ]
      refine wpAnyH_ready (rs := [14]) (by kernel_rfl) (by simp) (AllReadyH.cons rfl (fun K hK => ?_) AllReadyH.nil)
      try simp only [Go.wp_at_succ, Go.wp_at_zero]
      go_simp
      have bN : Below u2.heap.size u2 (u2.alloc (.cells #[.int .i64 pr, .int .i64 pn, .int .i64 ar, .int .i64 an, .bool has, .int .i64 vce, .slice a0 m c0] 40)) := (Below.refl _ _).alloc (Nat.le_refl _) _
      refine hK.out _ _ (HS.out _ (Ou2.out.then (Only.of (S := fun _ => False) bN) (fun _ _ h => h.elim))) (fun hHeld => ?_)
      clear hK K
      try simp only [Act.put, List.setIfInBounds_toArray, List.set_cons_zero, List.set_cons_succ]
      obtain ⟨u3, hN⟩ : ∃ u, u = u2.alloc (.cells #[.int .i64 pr, .int .i64 pn, .int .i64 ar, .int .i64 an, .bool has, .int .i64 vce, .slice a0 m c0] 40) := ⟨_, rfl⟩
      rw [← hN] at hHeld bN ⊢
      have Ou3 := Lib.hid (Ou2.out.then (Only.of (S := fun _ => False) bN) (fun _ _ h => h.elim))
      have Fu3 := Lib.hid (rowOn Fu2.out bN)
      have Vu3 := Lib.hid (rowOn Vu2.out bN)
      obtain ⟨q2, hq⟩ : ∃ q, q = u2.heap.size := ⟨_, rfl⟩
      have Q2u3 : Hid (u3.heap[q2]? = some (.cells (vcell ⟨⟨pr, pn, ar, an, has, vce, C⟩, .slice a0 m c0⟩).toArray 40 (0, 0))) := by rw [hN, hq]; exact heap_alloc_new u2 _
      rw [← hq]
      clear hN hq bN
      rotate_left
      try simp only [Go.wp_at_succ, Go.wp_at_zero]
      go_simp
      have bN : Below u2.heap.size u2 (u2.alloc (.cells #[.int .i64 pr, .int .i64 pn, .int .i64 ar, .int .i64 an, .bool has, .int .i64 vce, .slice a0 m c0] 40)) := (Below.refl _ _).alloc (Nat.le_refl _) _
      refine hK.out _ _ (HS.out _ (Ou2.out.then (Only.of (S := fun _ => False) bN) (fun _ _ h => h.elim))) (fun hHeld => ?_)
      clear hK K
      try simp only [Act.put, List.setIfInBounds_toArray, List.set_cons_zero, List.set_cons_succ]
      obtain ⟨u3, hN⟩ : ∃ u, u = u2.alloc (.cells #[.int .i64 pr, .int .i64 pn, .int .i64 ar, .int .i64 an, .bool has, .int .i64 vce, .slice a0 m c0] 40) := ⟨_, rfl⟩
      rw [← hN] at hHeld bN ⊢
      have Ou3 := Lib.hid (Ou2.out.then (Only.of (S := fun _ => False) bN) (fun _ _ h => h.elim))
      have Fu3 := Lib.hid (rowOn Fu2.out bN)
      have Vu3 := Lib.hid (rowOn Vu2.out bN)
      obtain ⟨q2, hq⟩ : ∃ q, q = u2.heap.size := ⟨_, rfl⟩
      have Q2u3 : Hid (u3.heap[q2]? = some (.cells (vcell ⟨⟨pr, pn, ar, an, has, vce, C⟩, .slice a0 m c0⟩).toArray 40 (0, 0))) := by rw [hN, hq]; exact heap_alloc_new u2 _
      rw [← hq]
      clear hN hq bN
      refine wpAnyH_ready (rs := [12]) (by kernel_rfl) (by simp) (AllReadyH.cons rfl (fun K hK => ?_) AllReadyH.nil)
      have xc := (HX.out _ Ou3.out).cells
      rw [← HLF.out, ← HLV.out] at xc
      obtain ⟨_, _, _, _, _, x5, x6, _⟩ := xc
      try simp only [Go.wp_at_succ, Go.wp_at_zero]
      go_simp
      refine hK.out _ _ (HS.out _ Ou3.out) (fun hHeld => ?_)
      clear hK K x5 x6
      try simp only [Act.put, List.setIfInBounds_toArray, List.set_cons_zero, List.set_cons_succ]
      rotate_left
      have xc := (HX.out _ Ou1.out).cells
      rw [← HLF.out, ← HLV.out] at xc
      obtain ⟨_, _, _, _, _, x5, x6, _⟩ := xc
      try simp only [Go.wp_at_succ, Go.wp_at_zero]
      go_simp
      refine hK.out _ _ (HS.out _ Ou1.out) (fun hHeld => ?_)
      clear hK K x5 x6
      try simp only [Act.put, List.setIfInBounds_toArray, List.set_cons_zero, List.set_cons_succ]
      refine wpAnyH_ready (rs := [8, 14]) (by kernel_rfl) (by simp) (AllReadyH.cons rfl (fun K hK => ?_) (AllReadyH.cons rfl (fun K hK => ?_) AllReadyH.nil))
      refine stepAppAt rfl (.tmp 66) (.tmp 68) 24 24 rfl n 3 i0 (.int .i64 0) 1 8 Try.underlying24 hi hz0 hz1 hz2 rfl (.slice fa lf fc) lf (intCells d.F) rfl Fu1.out _ 1 (intCells [x]) rfl (src_intT Q1u1.out) ?c3 ?c4 ?c5 ?_
      case c3 => have := HLF.out; have := HFB.out; unfold maxLen; omega
      case c4 => have := HLF.out; have := HFB.out; omega
      case c5 => exact Nat.le_trans H4.out.size Ou1.out.size
      intro v1 u2 hown hgrow hfr
      obtain ⟨fa2, fc2, hve⟩ := own_shape hown
      subst hve
      rw [HLF.out] at hgrow
      have hoN : Only (SS (.slice fa d.F.length fc) (.slice va d.V.length vc)) u1 u2 := ⟨hgrow.os, hgrow.tape, hgrow.output, hgrow.size, fun k hk hne => hgrow.block k hk (fun e => hne (.inl e.symm))⟩
      have Ou2 := Lib.hid (Ou1.out.trans hoN)
      have Fu2 := Lib.hid hown
      have Vu2 : Hid (u2.ownsRow n 40 7 (.slice va lv vc) lv (vcells d.V)) := row_still Vu1.out fun b hb => hgrow.block b (Vu1.out.lt b hb).2 (fun e => two_kinds (T := 3) (T2 := 40) (by decide) (row_kindT (HLF.out ▸ Fu1.out) e.symm) (row_kindT Vu1.out hb))
      have FR : Hid (∀ b, (Value.slice fa2 (lf + 1) fc2).ownBlock = some b → (Value.slice fa d.F.length fc).ownBlock = some b ∨ wc.heap.size ≤ b) := fun b hb => by
        rcases hfr b hb with h | h
        · exact .inl (by rw [← HLF.out]; exact h)
        · exact .inr (Nat.le_trans Ou1.out.size h)
      clear hown hgrow hfr hoN
      refine hK.out _ _ (HS.out _ Ou2.out) (fun hHeld => ?_)
      clear hK K
      try simp only [Act.put]
      try simp only [List.setIfInBounds_toArray]
      refine wpAnyH_ready (rs := [14]) (by kernel_rfl) (by simp) (AllReadyH.cons rfl (fun K hK => ?_) AllReadyH.nil)
      try simp only [Go.wp_at_succ, Go.wp_at_zero]
      go_simp
      have bN : Below u2.heap.size u2 (u2.alloc (.cells #[.int .i64 pr, .int .i64 pn, .int .i64 ar, .int .i64 an, .bool has, .int .i64 vce, .slice a0 m c0] 40)) := (Below.refl _ _).alloc (Nat.le_refl _) _
      refine hK.out _ _ (HS.out _ (Ou2.out.then (Only.of (S := fun _ => False) bN) (fun _ _ h => h.elim))) (fun hHeld => ?_)
      clear hK K
      try simp only [Act.put, List.setIfInBounds_toArray, List.set_cons_zero, List.set_cons_succ]
      obtain ⟨u3, hN⟩ : ∃ u, u = u2.alloc (.cells #[.int .i64 pr, .int .i64 pn, .int .i64 ar, .int .i64 an, .bool has, .int .i64 vce, .slice a0 m c0] 40) := ⟨_, rfl⟩
      rw [← hN] at hHeld bN ⊢
      have Ou3 := Lib.hid (Ou2.out.then (Only.of (S := fun _ => False) bN) (fun _ _ h => h.elim))
      have Fu3 := Lib.hid (rowOn Fu2.out bN)
      have Vu3 := Lib.hid (rowOn Vu2.out bN)
      obtain ⟨q2, hq⟩ : ∃ q, q = u2.heap.size := ⟨_, rfl⟩
      have Q2u3 : Hid (u3.heap[q2]? = some (.cells (vcell ⟨⟨pr, pn, ar, an, has, vce, C⟩, .slice a0 m c0⟩).toArray 40 (0, 0))) := by rw [hN, hq]; exact heap_alloc_new u2 _
      rw [← hq]
      clear hN hq bN
      rotate_left
      try simp only [Go.wp_at_succ, Go.wp_at_zero]
      go_simp
      have bN : Below u1.heap.size u1 (u1.alloc (.cells #[.int .i64 pr, .int .i64 pn, .int .i64 ar, .int .i64 an, .bool has, .int .i64 vce, .slice a0 m c0] 40)) := (Below.refl _ _).alloc (Nat.le_refl _) _
      refine hK.out _ _ (HS.out _ (Ou1.out.then (Only.of (S := fun _ => False) bN) (fun _ _ h => h.elim))) (fun hHeld => ?_)
      clear hK K
      try simp only [Act.put, List.setIfInBounds_toArray, List.set_cons_zero, List.set_cons_succ]
      obtain ⟨u2, hN⟩ : ∃ u, u = u1.alloc (.cells #[.int .i64 pr, .int .i64 pn, .int .i64 ar, .int .i64 an, .bool has, .int .i64 vce, .slice a0 m c0] 40) := ⟨_, rfl⟩
      rw [← hN] at hHeld bN ⊢
      have Ou2 := Lib.hid (Ou1.out.then (Only.of (S := fun _ => False) bN) (fun _ _ h => h.elim))
      have Fu2 := Lib.hid (rowOn Fu1.out bN)
      have Vu2 := Lib.hid (rowOn Vu1.out bN)
      obtain ⟨q2, hq⟩ : ∃ q, q = u1.heap.size := ⟨_, rfl⟩
      have Q2u2 : Hid (u2.heap[q2]? = some (.cells (vcell ⟨⟨pr, pn, ar, an, has, vce, C⟩, .slice a0 m c0⟩).toArray 40 (0, 0))) := by rw [hN, hq]; exact heap_alloc_new u1 _
      rw [← hq]
      have Q1u2 : Hid (_) := (bN.block _ (lt_of_block Q1u1.out)).trans Q1u1.out
      clear hN hq bN
      refine wpAnyH_ready (rs := [8]) (by kernel_rfl) (by simp) (AllReadyH.cons rfl (fun K hK => ?_) AllReadyH.nil)
      refine stepAppAt rfl (.tmp 66) (.tmp 68) 24 24 rfl n 3 i0 (.int .i64 0) 1 8 Try.underlying24 hi hz0 hz1 hz2 rfl (.slice fa lf fc) lf (intCells d.F) rfl Fu2.out _ 1 (intCells [x]) rfl (src_intT Q1u2.out) ?c3 ?c4 ?c5 ?_
      case c3 => have := HLF.out; have := HFB.out; unfold maxLen; omega
      case c4 => have := HLF.out; have := HFB.out; omega
      case c5 => exact Nat.le_trans H4.out.size Ou2.out.size
      intro v1 u3 hown hgrow hfr
      obtain ⟨fa2, fc2, hve⟩ := own_shape hown
      subst hve
      rw [HLF.out] at hgrow
      have hoN : Only (SS (.slice fa d.F.length fc) (.slice va d.V.length vc)) u2 u3 := ⟨hgrow.os, hgrow.tape, hgrow.output, hgrow.size, fun k hk hne => hgrow.block k hk (fun e => hne (.inl e.symm))⟩
      have Ou3 := Lib.hid (Ou2.out.trans hoN)
      have Fu3 := Lib.hid hown
      have Vu3 : Hid (u3.ownsRow n 40 7 (.slice va lv vc) lv (vcells d.V)) := row_still Vu2.out fun b hb => hgrow.block b (Vu2.out.lt b hb).2 (fun e => two_kinds (T := 3) (T2 := 40) (by decide) (row_kindT (HLF.out ▸ Fu2.out) e.symm) (row_kindT Vu2.out hb))
      have FR : Hid (∀ b, (Value.slice fa2 (lf + 1) fc2).ownBlock = some b → (Value.slice fa d.F.length fc).ownBlock = some b ∨ wc.heap.size ≤ b) := fun b hb => by
        rcases hfr b hb with h | h
        · exact .inl (by rw [← HLF.out]; exact h)
        · exact .inr (Nat.le_trans Ou2.out.size h)
      have Q2u3 : Hid (_) := (hgrow.block _ (lt_of_block Q2u2.out) (fun e => two_kinds (T := 3) (T2 := 40) (by decide) (row_kindT (HLF.out ▸ Fu2.out) e.symm) ⟨_, Q2u2.out⟩)).trans Q2u2.out
      clear hown hgrow hfr hoN
      refine hK.out _ _ (HS.out _ Ou3.out) (fun hHeld => ?_)
      clear hK K
      try simp only [Act.put]
      try simp only [List.setIfInBounds_toArray]
      rotate_left
      try simp only [Go.wp_at_succ, Go.wp_at_zero]
      go_simp
      have bN : Below u1.heap.size u1 (u1.alloc (.cells #[.int .i64 pr, .int .i64 pn, .int .i64 ar, .int .i64 an, .bool has, .int .i64 vce, .slice a0 m c0] 40)) := (Below.refl _ _).alloc (Nat.le_refl _) _
      refine hK.out _ _ (HS.out _ (Ou1.out.then (Only.of (S := fun _ => False) bN) (fun _ _ h => h.elim))) (fun hHeld => ?_)
      clear hK K
      try simp only [Act.put, List.setIfInBounds_toArray, List.set_cons_zero, List.set_cons_succ]
      obtain ⟨u2, hN⟩ : ∃ u, u = u1.alloc (.cells #[.int .i64 pr, .int .i64 pn, .int .i64 ar, .int .i64 an, .bool has, .int .i64 vce, .slice a0 m c0] 40) := ⟨_, rfl⟩
      rw [← hN] at hHeld bN ⊢
      have Ou2 := Lib.hid (Ou1.out.then (Only.of (S := fun _ => False) bN) (fun _ _ h => h.elim))
      have Fu2 := Lib.hid (rowOn Fu1.out bN)
      have Vu2 := Lib.hid (rowOn Vu1.out bN)
      obtain ⟨q2, hq⟩ : ∃ q, q = u1.heap.size := ⟨_, rfl⟩
      have Q2u2 : Hid (u2.heap[q2]? = some (.cells (vcell ⟨⟨pr, pn, ar, an, has, vce, C⟩, .slice a0 m c0⟩).toArray 40 (0, 0))) := by rw [hN, hq]; exact heap_alloc_new u1 _
      rw [← hq]
      have Q1u2 : Hid (_) := (bN.block _ (lt_of_block Q1u1.out)).trans Q1u1.out
      clear hN hq bN
      refine wpAnyH_ready (rs := [8, 12]) (by kernel_rfl) (by simp) (AllReadyH.cons rfl (fun K hK => ?_) (AllReadyH.cons rfl (fun K hK => ?_) AllReadyH.nil))
      refine stepAppAt rfl (.tmp 66) (.tmp 68) 24 24 rfl n 3 i0 (.int .i64 0) 1 8 Try.underlying24 hi hz0 hz1 hz2 rfl (.slice fa lf fc) lf (intCells d.F) rfl Fu2.out _ 1 (intCells [x]) rfl (src_intT Q1u2.out) ?c3 ?c4 ?c5 ?_
      case c3 => have := HLF.out; have := HFB.out; unfold maxLen; omega
      case c4 => have := HLF.out; have := HFB.out; omega
      case c5 => exact Nat.le_trans H4.out.size Ou2.out.size
      intro v1 u3 hown hgrow hfr
      obtain ⟨fa2, fc2, hve⟩ := own_shape hown
      subst hve
      rw [HLF.out] at hgrow
      have hoN : Only (SS (.slice fa d.F.length fc) (.slice va d.V.length vc)) u2 u3 := ⟨hgrow.os, hgrow.tape, hgrow.output, hgrow.size, fun k hk hne => hgrow.block k hk (fun e => hne (.inl e.symm))⟩
      have Ou3 := Lib.hid (Ou2.out.trans hoN)
      have Fu3 := Lib.hid hown
      have Vu3 : Hid (u3.ownsRow n 40 7 (.slice va lv vc) lv (vcells d.V)) := row_still Vu2.out fun b hb => hgrow.block b (Vu2.out.lt b hb).2 (fun e => two_kinds (T := 3) (T2 := 40) (by decide) (row_kindT (HLF.out ▸ Fu2.out) e.symm) (row_kindT Vu2.out hb))
      have FR : Hid (∀ b, (Value.slice fa2 (lf + 1) fc2).ownBlock = some b → (Value.slice fa d.F.length fc).ownBlock = some b ∨ wc.heap.size ≤ b) := fun b hb => by
        rcases hfr b hb with h | h
        · exact .inl (by rw [← HLF.out]; exact h)
        · exact .inr (Nat.le_trans Ou2.out.size h)
      have Q2u3 : Hid (_) := (hgrow.block _ (lt_of_block Q2u2.out) (fun e => two_kinds (T := 3) (T2 := 40) (by decide) (row_kindT (HLF.out ▸ Fu2.out) e.symm) ⟨_, Q2u2.out⟩)).trans Q2u2.out
      clear hown hgrow hfr hoN
      refine hK.out _ _ (HS.out _ Ou3.out) (fun hHeld => ?_)
      clear hK K
      try simp only [Act.put]
      try simp only [List.setIfInBounds_toArray]
      refine wpAnyH_ready (rs := [12]) (by kernel_rfl) (by simp) (AllReadyH.cons rfl (fun K hK => ?_) AllReadyH.nil)
      have xc := (HX.out _ Ou3.out).cells
      rw [← HLF.out, ← HLV.out] at xc
      obtain ⟨_, _, _, _, _, x5, x6, _⟩ := xc
      try simp only [Go.wp_at_succ, Go.wp_at_zero]
      go_simp
      refine hK.out _ _ (HS.out _ Ou3.out) (fun hHeld => ?_)
      clear hK K x5 x6
      try simp only [Act.put, List.setIfInBounds_toArray, List.set_cons_zero, List.set_cons_succ]
      rotate_left
      have xc := (HX.out _ Ou2.out).cells
      rw [← HLF.out, ← HLV.out] at xc
      obtain ⟨_, _, _, _, _, x5, x6, _⟩ := xc
      try simp only [Go.wp_at_succ, Go.wp_at_zero]
      go_simp
      refine hK.out _ _ (HS.out _ Ou2.out) (fun hHeld => ?_)
      clear hK K x5 x6
      try simp only [Act.put, List.setIfInBounds_toArray, List.set_cons_zero, List.set_cons_succ]
      refine wpAnyH_ready (rs := [8]) (by kernel_rfl) (by simp) (AllReadyH.cons rfl (fun K hK => ?_) AllReadyH.nil)
      refine stepAppAt rfl (.tmp 66) (.tmp 68) 24 24 rfl n 3 i0 (.int .i64 0) 1 8 Try.underlying24 hi hz0 hz1 hz2 rfl (.slice fa lf fc) lf (intCells d.F) rfl Fu2.out _ 1 (intCells [x]) rfl (src_intT Q1u2.out) ?c3 ?c4 ?c5 ?_
      case c3 => have := HLF.out; have := HFB.out; unfold maxLen; omega
      case c4 => have := HLF.out; have := HFB.out; omega
      case c5 => exact Nat.le_trans H4.out.size Ou2.out.size
      intro v1 u3 hown hgrow hfr
      obtain ⟨fa2, fc2, hve⟩ := own_shape hown
      subst hve
      rw [HLF.out] at hgrow
      have hoN : Only (SS (.slice fa d.F.length fc) (.slice va d.V.length vc)) u2 u3 := ⟨hgrow.os, hgrow.tape, hgrow.output, hgrow.size, fun k hk hne => hgrow.block k hk (fun e => hne (.inl e.symm))⟩
      have Ou3 := Lib.hid (Ou2.out.trans hoN)
      have Fu3 := Lib.hid hown
      have Vu3 : Hid (u3.ownsRow n 40 7 (.slice va lv vc) lv (vcells d.V)) := row_still Vu2.out fun b hb => hgrow.block b (Vu2.out.lt b hb).2 (fun e => two_kinds (T := 3) (T2 := 40) (by decide) (row_kindT (HLF.out ▸ Fu2.out) e.symm) (row_kindT Vu2.out hb))
      have FR : Hid (∀ b, (Value.slice fa2 (lf + 1) fc2).ownBlock = some b → (Value.slice fa d.F.length fc).ownBlock = some b ∨ wc.heap.size ≤ b) := fun b hb => by
        rcases hfr b hb with h | h
        · exact .inl (by rw [← HLF.out]; exact h)
        · exact .inr (Nat.le_trans Ou2.out.size h)
      have Q2u3 : Hid (_) := (hgrow.block _ (lt_of_block Q2u2.out) (fun e => two_kinds (T := 3) (T2 := 40) (by decide) (row_kindT (HLF.out ▸ Fu2.out) e.symm) ⟨_, Q2u2.out⟩)).trans Q2u2.out
      clear hown hgrow hfr hoN
      refine hK.out _ _ (HS.out _ Ou3.out) (fun hHeld => ?_)
      clear hK K
      try simp only [Act.put]
      try simp only [List.setIfInBounds_toArray]
      rotate_left
      have xc := (HX.out _ Ou0.out).cells
      rw [← HLF.out, ← HLV.out] at xc
      obtain ⟨_, _, _, _, _, x5, x6, _⟩ := xc
      try simp only [Go.wp_at_succ, Go.wp_at_zero]
      go_simp
      refine hK.out _ _ (HS.out _ Ou0.out) (fun hHeld => ?_)
      clear hK K x5 x6
      try simp only [Act.put, List.setIfInBounds_toArray, List.set_cons_zero, List.set_cons_succ]
      refine wpAnyH_ready (rs := [7, 14]) (by kernel_rfl) (by simp) (AllReadyH.cons rfl (fun K hK => ?_) (AllReadyH.cons rfl (fun K hK => ?_) AllReadyH.nil))
      try simp only [Go.wp_at_succ, Go.wp_at_zero]
      go_simp
      have bN : Below u0.heap.size u0 (u0.alloc (.cells #[.int .i64 x] 3)) := (Below.refl _ _).alloc (Nat.le_refl _) _
      refine hK.out _ _ (HS.out _ (Ou0.out.then (Only.of (S := fun _ => False) bN) (fun _ _ h => h.elim))) (fun hHeld => ?_)
      clear hK K
      try simp only [Act.put, List.setIfInBounds_toArray, List.set_cons_zero, List.set_cons_succ]
      obtain ⟨u1, hN⟩ : ∃ u, u = u0.alloc (.cells #[.int .i64 x] 3) := ⟨_, rfl⟩
      rw [← hN] at hHeld bN ⊢
      have Ou1 := Lib.hid (Ou0.out.then (Only.of (S := fun _ => False) bN) (fun _ _ h => h.elim))
      have Fu1 := Lib.hid (rowOn Fu0.out bN)
      have Vu1 := Lib.hid (rowOn Vu0.out bN)
      obtain ⟨q1, hq⟩ : ∃ q, q = u0.heap.size := ⟨_, rfl⟩
      have Q1u1 : Hid (u1.heap[q1]? = some (.cells #[.int .i64 x] 3 (0, 0))) := by rw [hN, hq]; exact heap_alloc_new u0 _
      rw [← hq]
      clear hN hq bN
      refine wpAnyH_ready (rs := [8, 14]) (by kernel_rfl) (by simp) (AllReadyH.cons rfl (fun K hK => ?_) (AllReadyH.cons rfl (fun K hK => ?_) AllReadyH.nil))
      refine stepAppAt rfl (.tmp 66) (.tmp 68) 24 24 rfl n 3 i0 (.int .i64 0) 1 8 Try.underlying24 hi hz0 hz1 hz2 rfl (.slice fa lf fc) lf (intCells d.F) rfl Fu1.out _ 1 (intCells [x]) rfl (src_intT Q1u1.out) ?c3 ?c4 ?c5 ?_
      case c3 => have := HLF.out; have := HFB.out; unfold maxLen; omega
      case c4 => have := HLF.out; have := HFB.out; omega
      case c5 => exact Nat.le_trans H4.out.size Ou1.out.size
      intro v1 u2 hown hgrow hfr
      obtain ⟨fa2, fc2, hve⟩ := own_shape hown
      subst hve
      rw [HLF.out] at hgrow
      have hoN : Only (SS (.slice fa d.F.length fc) (.slice va d.V.length vc)) u1 u2 := ⟨hgrow.os, hgrow.tape, hgrow.output, hgrow.size, fun k hk hne => hgrow.block k hk (fun e => hne (.inl e.symm))⟩
      have Ou2 := Lib.hid (Ou1.out.trans hoN)
      have Fu2 := Lib.hid hown
      have Vu2 : Hid (u2.ownsRow n 40 7 (.slice va lv vc) lv (vcells d.V)) := row_still Vu1.out fun b hb => hgrow.block b (Vu1.out.lt b hb).2 (fun e => two_kinds (T := 3) (T2 := 40) (by decide) (row_kindT (HLF.out ▸ Fu1.out) e.symm) (row_kindT Vu1.out hb))
      have FR : Hid (∀ b, (Value.slice fa2 (lf + 1) fc2).ownBlock = some b → (Value.slice fa d.F.length fc).ownBlock = some b ∨ wc.heap.size ≤ b) := fun b hb => by
        rcases hfr b hb with h | h
        · exact .inl (by rw [← HLF.out]; exact h)
        · exact .inr (Nat.le_trans Ou1.out.size h)
      clear hown hgrow hfr hoN
      refine hK.out _ _ (HS.out _ Ou2.out) (fun hHeld => ?_)
      clear hK K
      try simp only [Act.put]
      try simp only [List.setIfInBounds_toArray]
      refine wpAnyH_ready (rs := [14]) (by kernel_rfl) (by simp) (AllReadyH.cons rfl (fun K hK => ?_) AllReadyH.nil)
      try simp only [Go.wp_at_succ, Go.wp_at_zero]
      go_simp
      have bN : Below u2.heap.size u2 (u2.alloc (.cells #[.int .i64 pr, .int .i64 pn, .int .i64 ar, .int .i64 an, .bool has, .int .i64 vce, .slice a0 m c0] 40)) := (Below.refl _ _).alloc (Nat.le_refl _) _
      refine hK.out _ _ (HS.out _ (Ou2.out.then (Only.of (S := fun _ => False) bN) (fun _ _ h => h.elim))) (fun hHeld => ?_)
      clear hK K
      try simp only [Act.put, List.setIfInBounds_toArray, List.set_cons_zero, List.set_cons_succ]
      obtain ⟨u3, hN⟩ : ∃ u, u = u2.alloc (.cells #[.int .i64 pr, .int .i64 pn, .int .i64 ar, .int .i64 an, .bool has, .int .i64 vce, .slice a0 m c0] 40) := ⟨_, rfl⟩
      rw [← hN] at hHeld bN ⊢
      have Ou3 := Lib.hid (Ou2.out.then (Only.of (S := fun _ => False) bN) (fun _ _ h => h.elim))
      have Fu3 := Lib.hid (rowOn Fu2.out bN)
      have Vu3 := Lib.hid (rowOn Vu2.out bN)
      obtain ⟨q2, hq⟩ : ∃ q, q = u2.heap.size := ⟨_, rfl⟩
      have Q2u3 : Hid (u3.heap[q2]? = some (.cells (vcell ⟨⟨pr, pn, ar, an, has, vce, C⟩, .slice a0 m c0⟩).toArray 40 (0, 0))) := by rw [hN, hq]; exact heap_alloc_new u2 _
      rw [← hq]
      clear hN hq bN
      rotate_left
      try simp only [Go.wp_at_succ, Go.wp_at_zero]
      go_simp
      have bN : Below u1.heap.size u1 (u1.alloc (.cells #[.int .i64 pr, .int .i64 pn, .int .i64 ar, .int .i64 an, .bool has, .int .i64 vce, .slice a0 m c0] 40)) := (Below.refl _ _).alloc (Nat.le_refl _) _
      refine hK.out _ _ (HS.out _ (Ou1.out.then (Only.of (S := fun _ => False) bN) (fun _ _ h => h.elim))) (fun hHeld => ?_)
      clear hK K
      try simp only [Act.put, List.setIfInBounds_toArray, List.set_cons_zero, List.set_cons_succ]
      obtain ⟨u2, hN⟩ : ∃ u, u = u1.alloc (.cells #[.int .i64 pr, .int .i64 pn, .int .i64 ar, .int .i64 an, .bool has, .int .i64 vce, .slice a0 m c0] 40) := ⟨_, rfl⟩
      rw [← hN] at hHeld bN ⊢
      have Ou2 := Lib.hid (Ou1.out.then (Only.of (S := fun _ => False) bN) (fun _ _ h => h.elim))
      have Fu2 := Lib.hid (rowOn Fu1.out bN)
      have Vu2 := Lib.hid (rowOn Vu1.out bN)
      obtain ⟨q2, hq⟩ : ∃ q, q = u1.heap.size := ⟨_, rfl⟩
      have Q2u2 : Hid (u2.heap[q2]? = some (.cells (vcell ⟨⟨pr, pn, ar, an, has, vce, C⟩, .slice a0 m c0⟩).toArray 40 (0, 0))) := by rw [hN, hq]; exact heap_alloc_new u1 _
      rw [← hq]
      have Q1u2 : Hid (_) := (bN.block _ (lt_of_block Q1u1.out)).trans Q1u1.out
      clear hN hq bN
      refine wpAnyH_ready (rs := [8]) (by kernel_rfl) (by simp) (AllReadyH.cons rfl (fun K hK => ?_) AllReadyH.nil)
      refine stepAppAt rfl (.tmp 66) (.tmp 68) 24 24 rfl n 3 i0 (.int .i64 0) 1 8 Try.underlying24 hi hz0 hz1 hz2 rfl (.slice fa lf fc) lf (intCells d.F) rfl Fu2.out _ 1 (intCells [x]) rfl (src_intT Q1u2.out) ?c3 ?c4 ?c5 ?_
      case c3 => have := HLF.out; have := HFB.out; unfold maxLen; omega
      case c4 => have := HLF.out; have := HFB.out; omega
      case c5 => exact Nat.le_trans H4.out.size Ou2.out.size
      intro v1 u3 hown hgrow hfr
      obtain ⟨fa2, fc2, hve⟩ := own_shape hown
      subst hve
      rw [HLF.out] at hgrow
      have hoN : Only (SS (.slice fa d.F.length fc) (.slice va d.V.length vc)) u2 u3 := ⟨hgrow.os, hgrow.tape, hgrow.output, hgrow.size, fun k hk hne => hgrow.block k hk (fun e => hne (.inl e.symm))⟩
      have Ou3 := Lib.hid (Ou2.out.trans hoN)
      have Fu3 := Lib.hid hown
      have Vu3 : Hid (u3.ownsRow n 40 7 (.slice va lv vc) lv (vcells d.V)) := row_still Vu2.out fun b hb => hgrow.block b (Vu2.out.lt b hb).2 (fun e => two_kinds (T := 3) (T2 := 40) (by decide) (row_kindT (HLF.out ▸ Fu2.out) e.symm) (row_kindT Vu2.out hb))
      have FR : Hid (∀ b, (Value.slice fa2 (lf + 1) fc2).ownBlock = some b → (Value.slice fa d.F.length fc).ownBlock = some b ∨ wc.heap.size ≤ b) := fun b hb => by
        rcases hfr b hb with h | h
        · exact .inl (by rw [← HLF.out]; exact h)
        · exact .inr (Nat.le_trans Ou2.out.size h)
      have Q2u3 : Hid (_) := (hgrow.block _ (lt_of_block Q2u2.out) (fun e => two_kinds (T := 3) (T2 := 40) (by decide) (row_kindT (HLF.out ▸ Fu2.out) e.symm) ⟨_, Q2u2.out⟩)).trans Q2u2.out
      clear hown hgrow hfr hoN
      refine hK.out _ _ (HS.out _ Ou3.out) (fun hHeld => ?_)
      clear hK K
      try simp only [Act.put]
      try simp only [List.setIfInBounds_toArray]
      rotate_left
      try simp only [Go.wp_at_succ, Go.wp_at_zero]
      go_simp
      have bN : Below u0.heap.size u0 (u0.alloc (.cells #[.int .i64 pr, .int .i64 pn, .int .i64 ar, .int .i64 an, .bool has, .int .i64 vce, .slice a0 m c0] 40)) := (Below.refl _ _).alloc (Nat.le_refl _) _
      refine hK.out _ _ (HS.out _ (Ou0.out.then (Only.of (S := fun _ => False) bN) (fun _ _ h => h.elim))) (fun hHeld => ?_)
      clear hK K
      try simp only [Act.put, List.setIfInBounds_toArray, List.set_cons_zero, List.set_cons_succ]
      obtain ⟨u1, hN⟩ : ∃ u, u = u0.alloc (.cells #[.int .i64 pr, .int .i64 pn, .int .i64 ar, .int .i64 an, .bool has, .int .i64 vce, .slice a0 m c0] 40) := ⟨_, rfl⟩
      rw [← hN] at hHeld bN ⊢
      have Ou1 := Lib.hid (Ou0.out.then (Only.of (S := fun _ => False) bN) (fun _ _ h => h.elim))
      have Fu1 := Lib.hid (rowOn Fu0.out bN)
      have Vu1 := Lib.hid (rowOn Vu0.out bN)
      obtain ⟨q2, hq⟩ : ∃ q, q = u0.heap.size := ⟨_, rfl⟩
      have Q2u1 : Hid (u1.heap[q2]? = some (.cells (vcell ⟨⟨pr, pn, ar, an, has, vce, C⟩, .slice a0 m c0⟩).toArray 40 (0, 0))) := by rw [hN, hq]; exact heap_alloc_new u0 _
      rw [← hq]
      clear hN hq bN
      refine wpAnyH_ready (rs := [7]) (by kernel_rfl) (by simp) (AllReadyH.cons rfl (fun K hK => ?_) AllReadyH.nil)
      try simp only [Go.wp_at_succ, Go.wp_at_zero]
      go_simp
      have bN : Below u1.heap.size u1 (u1.alloc (.cells #[.int .i64 x] 3)) := (Below.refl _ _).alloc (Nat.le_refl _) _
      refine hK.out _ _ (HS.out _ (Ou1.out.then (Only.of (S := fun _ => False) bN) (fun _ _ h => h.elim))) (fun hHeld => ?_)
      clear hK K
      try simp only [Act.put, List.setIfInBounds_toArray, List.set_cons_zero, List.set_cons_succ]
      obtain ⟨u2, hN⟩ : ∃ u, u = u1.alloc (.cells #[.int .i64 x] 3) := ⟨_, rfl⟩
      rw [← hN] at hHeld bN ⊢
      have Ou2 := Lib.hid (Ou1.out.then (Only.of (S := fun _ => False) bN) (fun _ _ h => h.elim))
      have Fu2 := Lib.hid (rowOn Fu1.out bN)
      have Vu2 := Lib.hid (rowOn Vu1.out bN)
      obtain ⟨q1, hq⟩ : ∃ q, q = u1.heap.size := ⟨_, rfl⟩
      have Q1u2 : Hid (u2.heap[q1]? = some (.cells #[.int .i64 x] 3 (0, 0))) := by rw [hN, hq]; exact heap_alloc_new u1 _
      rw [← hq]
      have Q2u2 : Hid (_) := (bN.block _ (lt_of_block Q2u1.out)).trans Q2u1.out
      clear hN hq bN
      refine wpAnyH_ready (rs := [8]) (by kernel_rfl) (by simp) (AllReadyH.cons rfl (fun K hK => ?_) AllReadyH.nil)
      refine stepAppAt rfl (.tmp 66) (.tmp 68) 24 24 rfl n 3 i0 (.int .i64 0) 1 8 Try.underlying24 hi hz0 hz1 hz2 rfl (.slice fa lf fc) lf (intCells d.F) rfl Fu2.out _ 1 (intCells [x]) rfl (src_intT Q1u2.out) ?c3 ?c4 ?c5 ?_
      case c3 => have := HLF.out; have := HFB.out; unfold maxLen; omega
      case c4 => have := HLF.out; have := HFB.out; omega
      case c5 => exact Nat.le_trans H4.out.size Ou2.out.size
      intro v1 u3 hown hgrow hfr
      obtain ⟨fa2, fc2, hve⟩ := own_shape hown
      subst hve
      rw [HLF.out] at hgrow
      have hoN : Only (SS (.slice fa d.F.length fc) (.slice va d.V.length vc)) u2 u3 := ⟨hgrow.os, hgrow.tape, hgrow.output, hgrow.size, fun k hk hne => hgrow.block k hk (fun e => hne (.inl e.symm))⟩
      have Ou3 := Lib.hid (Ou2.out.trans hoN)
      have Fu3 := Lib.hid hown
      have Vu3 : Hid (u3.ownsRow n 40 7 (.slice va lv vc) lv (vcells d.V)) := row_still Vu2.out fun b hb => hgrow.block b (Vu2.out.lt b hb).2 (fun e => two_kinds (T := 3) (T2 := 40) (by decide) (row_kindT (HLF.out ▸ Fu2.out) e.symm) (row_kindT Vu2.out hb))
      have FR : Hid (∀ b, (Value.slice fa2 (lf + 1) fc2).ownBlock = some b → (Value.slice fa d.F.length fc).ownBlock = some b ∨ wc.heap.size ≤ b) := fun b hb => by
        rcases hfr b hb with h | h
        · exact .inl (by rw [← HLF.out]; exact h)
        · exact .inr (Nat.le_trans Ou2.out.size h)
      have Q2u3 : Hid (_) := (hgrow.block _ (lt_of_block Q2u2.out) (fun e => two_kinds (T := 3) (T2 := 40) (by decide) (row_kindT (HLF.out ▸ Fu2.out) e.symm) ⟨_, Q2u2.out⟩)).trans Q2u2.out
      clear hown hgrow hfr hoN
      refine hK.out _ _ (HS.out _ Ou3.out) (fun hHeld => ?_)
      clear hK K
      try simp only [Act.put]
      try simp only [List.setIfInBounds_toArray]
      rotate_left
      try simp only [Go.wp_at_succ, Go.wp_at_zero]
      go_simp
      have bN : Below u0.heap.size u0 (u0.alloc (.cells #[.int .i64 pr, .int .i64 pn, .int .i64 ar, .int .i64 an, .bool has, .int .i64 vce, .slice a0 m c0] 40)) := (Below.refl _ _).alloc (Nat.le_refl _) _
      refine hK.out _ _ (HS.out _ (Ou0.out.then (Only.of (S := fun _ => False) bN) (fun _ _ h => h.elim))) (fun hHeld => ?_)
      clear hK K
      try simp only [Act.put, List.setIfInBounds_toArray, List.set_cons_zero, List.set_cons_succ]
      obtain ⟨u1, hN⟩ : ∃ u, u = u0.alloc (.cells #[.int .i64 pr, .int .i64 pn, .int .i64 ar, .int .i64 an, .bool has, .int .i64 vce, .slice a0 m c0] 40) := ⟨_, rfl⟩
      rw [← hN] at hHeld bN ⊢
      have Ou1 := Lib.hid (Ou0.out.then (Only.of (S := fun _ => False) bN) (fun _ _ h => h.elim))
      have Fu1 := Lib.hid (rowOn Fu0.out bN)
      have Vu1 := Lib.hid (rowOn Vu0.out bN)
      obtain ⟨q2, hq⟩ : ∃ q, q = u0.heap.size := ⟨_, rfl⟩
      have Q2u1 : Hid (u1.heap[q2]? = some (.cells (vcell ⟨⟨pr, pn, ar, an, has, vce, C⟩, .slice a0 m c0⟩).toArray 40 (0, 0))) := by rw [hN, hq]; exact heap_alloc_new u0 _
      rw [← hq]
      clear hN hq bN
      refine wpAnyH_ready (rs := [7, 12]) (by kernel_rfl) (by simp) (AllReadyH.cons rfl (fun K hK => ?_) (AllReadyH.cons rfl (fun K hK => ?_) AllReadyH.nil))
      try simp only [Go.wp_at_succ, Go.wp_at_zero]
      go_simp
      have bN : Below u1.heap.size u1 (u1.alloc (.cells #[.int .i64 x] 3)) := (Below.refl _ _).alloc (Nat.le_refl _) _
      refine hK.out _ _ (HS.out _ (Ou1.out.then (Only.of (S := fun _ => False) bN) (fun _ _ h => h.elim))) (fun hHeld => ?_)
      clear hK K
      try simp only [Act.put, List.setIfInBounds_toArray, List.set_cons_zero, List.set_cons_succ]
      obtain ⟨u2, hN⟩ : ∃ u, u = u1.alloc (.cells #[.int .i64 x] 3) := ⟨_, rfl⟩
      rw [← hN] at hHeld bN ⊢
      have Ou2 := Lib.hid (Ou1.out.then (Only.of (S := fun _ => False) bN) (fun _ _ h => h.elim))
      have Fu2 := Lib.hid (rowOn Fu1.out bN)
      have Vu2 := Lib.hid (rowOn Vu1.out bN)
      obtain ⟨q1, hq⟩ : ∃ q, q = u1.heap.size := ⟨_, rfl⟩
      have Q1u2 : Hid (u2.heap[q1]? = some (.cells #[.int .i64 x] 3 (0, 0))) := by rw [hN, hq]; exact heap_alloc_new u1 _
      rw [← hq]
      have Q2u2 : Hid (_) := (bN.block _ (lt_of_block Q2u1.out)).trans Q2u1.out
      clear hN hq bN
      refine wpAnyH_ready (rs := [8, 12]) (by kernel_rfl) (by simp) (AllReadyH.cons rfl (fun K hK => ?_) (AllReadyH.cons rfl (fun K hK => ?_) AllReadyH.nil))
      refine stepAppAt rfl (.tmp 66) (.tmp 68) 24 24 rfl n 3 i0 (.int .i64 0) 1 8 Try.underlying24 hi hz0 hz1 hz2 rfl (.slice fa lf fc) lf (intCells d.F) rfl Fu2.out _ 1 (intCells [x]) rfl (src_intT Q1u2.out) ?c3 ?c4 ?c5 ?_
      case c3 => have := HLF.out; have := HFB.out; unfold maxLen; omega
      case c4 => have := HLF.out; have := HFB.out; omega
      case c5 => exact Nat.le_trans H4.out.size Ou2.out.size
      intro v1 u3 hown hgrow hfr
      obtain ⟨fa2, fc2, hve⟩ := own_shape hown
      subst hve
      rw [HLF.out] at hgrow
      have hoN : Only (SS (.slice fa d.F.length fc) (.slice va d.V.length vc)) u2 u3 := ⟨hgrow.os, hgrow.tape, hgrow.output, hgrow.size, fun k hk hne => hgrow.block k hk (fun e => hne (.inl e.symm))⟩
      have Ou3 := Lib.hid (Ou2.out.trans hoN)
      have Fu3 := Lib.hid hown
      have Vu3 : Hid (u3.ownsRow n 40 7 (.slice va lv vc) lv (vcells d.V)) := row_still Vu2.out fun b hb => hgrow.block b (Vu2.out.lt b hb).2 (fun e => two_kinds (T := 3) (T2 := 40) (by decide) (row_kindT (HLF.out ▸ Fu2.out) e.symm) (row_kindT Vu2.out hb))
      have FR : Hid (∀ b, (Value.slice fa2 (lf + 1) fc2).ownBlock = some b → (Value.slice fa d.F.length fc).ownBlock = some b ∨ wc.heap.size ≤ b) := fun b hb => by
        rcases hfr b hb with h | h
        · exact .inl (by rw [← HLF.out]; exact h)
        · exact .inr (Nat.le_trans Ou2.out.size h)
      have Q2u3 : Hid (_) := (hgrow.block _ (lt_of_block Q2u2.out) (fun e => two_kinds (T := 3) (T2 := 40) (by decide) (row_kindT (HLF.out ▸ Fu2.out) e.symm) ⟨_, Q2u2.out⟩)).trans Q2u2.out
      clear hown hgrow hfr hoN
      refine hK.out _ _ (HS.out _ Ou3.out) (fun hHeld => ?_)
      clear hK K
      try simp only [Act.put]
      try simp only [List.setIfInBounds_toArray]
      refine wpAnyH_ready (rs := [12]) (by kernel_rfl) (by simp) (AllReadyH.cons rfl (fun K hK => ?_) AllReadyH.nil)
      have xc := (HX.out _ Ou3.out).cells
      rw [← HLF.out, ← HLV.out] at xc
      obtain ⟨_, _, _, _, _, x5, x6, _⟩ := xc
      try simp only [Go.wp_at_succ, Go.wp_at_zero]
      go_simp
      refine hK.out _ _ (HS.out _ Ou3.out) (fun hHeld => ?_)
      clear hK K x5 x6
      try simp only [Act.put, List.setIfInBounds_toArray, List.set_cons_zero, List.set_cons_succ]
      rotate_left
      have xc := (HX.out _ Ou2.out).cells
      rw [← HLF.out, ← HLV.out] at xc
      obtain ⟨_, _, _, _, _, x5, x6, _⟩ := xc
      try simp only [Go.wp_at_succ, Go.wp_at_zero]
      go_simp
      refine hK.out _ _ (HS.out _ Ou2.out) (fun hHeld => ?_)
      clear hK K x5 x6
      try simp only [Act.put, List.setIfInBounds_toArray, List.set_cons_zero, List.set_cons_succ]
      refine wpAnyH_ready (rs := [8]) (by kernel_rfl) (by simp) (AllReadyH.cons rfl (fun K hK => ?_) AllReadyH.nil)
      refine stepAppAt rfl (.tmp 66) (.tmp 68) 24 24 rfl n 3 i0 (.int .i64 0) 1 8 Try.underlying24 hi hz0 hz1 hz2 rfl (.slice fa lf fc) lf (intCells d.F) rfl Fu2.out _ 1 (intCells [x]) rfl (src_intT Q1u2.out) ?c3 ?c4 ?c5 ?_
      case c3 => have := HLF.out; have := HFB.out; unfold maxLen; omega
      case c4 => have := HLF.out; have := HFB.out; omega
      case c5 => exact Nat.le_trans H4.out.size Ou2.out.size
      intro v1 u3 hown hgrow hfr
      obtain ⟨fa2, fc2, hve⟩ := own_shape hown
      subst hve
      rw [HLF.out] at hgrow
      have hoN : Only (SS (.slice fa d.F.length fc) (.slice va d.V.length vc)) u2 u3 := ⟨hgrow.os, hgrow.tape, hgrow.output, hgrow.size, fun k hk hne => hgrow.block k hk (fun e => hne (.inl e.symm))⟩
      have Ou3 := Lib.hid (Ou2.out.trans hoN)
      have Fu3 := Lib.hid hown
      have Vu3 : Hid (u3.ownsRow n 40 7 (.slice va lv vc) lv (vcells d.V)) := row_still Vu2.out fun b hb => hgrow.block b (Vu2.out.lt b hb).2 (fun e => two_kinds (T := 3) (T2 := 40) (by decide) (row_kindT (HLF.out ▸ Fu2.out) e.symm) (row_kindT Vu2.out hb))
      have FR : Hid (∀ b, (Value.slice fa2 (lf + 1) fc2).ownBlock = some b → (Value.slice fa d.F.length fc).ownBlock = some b ∨ wc.heap.size ≤ b) := fun b hb => by
        rcases hfr b hb with h | h
        · exact .inl (by rw [← HLF.out]; exact h)
        · exact .inr (Nat.le_trans Ou2.out.size h)
      have Q2u3 : Hid (_) := (hgrow.block _ (lt_of_block Q2u2.out) (fun e => two_kinds (T := 3) (T2 := 40) (by decide) (row_kindT (HLF.out ▸ Fu2.out) e.symm) ⟨_, Q2u2.out⟩)).trans Q2u2.out
      clear hown hgrow hfr hoN
      refine hK.out _ _ (HS.out _ Ou3.out) (fun hHeld => ?_)
      clear hK K
      try simp only [Act.put]
      try simp only [List.setIfInBounds_toArray]
      rotate_left
      have xc := (HX.out _ Ou1.out).cells
      rw [← HLF.out, ← HLV.out] at xc
      obtain ⟨_, _, _, _, _, x5, x6, _⟩ := xc
      try simp only [Go.wp_at_succ, Go.wp_at_zero]
      go_simp
      refine hK.out _ _ (HS.out _ Ou1.out) (fun hHeld => ?_)
      clear hK K x5 x6
      try simp only [Act.put, List.setIfInBounds_toArray, List.set_cons_zero, List.set_cons_succ]
      refine wpAnyH_ready (rs := [7]) (by kernel_rfl) (by simp) (AllReadyH.cons rfl (fun K hK => ?_) AllReadyH.nil)
      try simp only [Go.wp_at_succ, Go.wp_at_zero]
      go_simp
      have bN : Below u1.heap.size u1 (u1.alloc (.cells #[.int .i64 x] 3)) := (Below.refl _ _).alloc (Nat.le_refl _) _
      refine hK.out _ _ (HS.out _ (Ou1.out.then (Only.of (S := fun _ => False) bN) (fun _ _ h => h.elim))) (fun hHeld => ?_)
      clear hK K
      try simp only [Act.put, List.setIfInBounds_toArray, List.set_cons_zero, List.set_cons_succ]
      obtain ⟨u2, hN⟩ : ∃ u, u = u1.alloc (.cells #[.int .i64 x] 3) := ⟨_, rfl⟩
      rw [← hN] at hHeld bN ⊢
      have Ou2 := Lib.hid (Ou1.out.then (Only.of (S := fun _ => False) bN) (fun _ _ h => h.elim))
      have Fu2 := Lib.hid (rowOn Fu1.out bN)
      have Vu2 := Lib.hid (rowOn Vu1.out bN)
      obtain ⟨q1, hq⟩ : ∃ q, q = u1.heap.size := ⟨_, rfl⟩
      have Q1u2 : Hid (u2.heap[q1]? = some (.cells #[.int .i64 x] 3 (0, 0))) := by rw [hN, hq]; exact heap_alloc_new u1 _
      rw [← hq]
      have Q2u2 : Hid (_) := (bN.block _ (lt_of_block Q2u1.out)).trans Q2u1.out
      clear hN hq bN
      refine wpAnyH_ready (rs := [8]) (by kernel_rfl) (by simp) (AllReadyH.cons rfl (fun K hK => ?_) AllReadyH.nil)
      refine stepAppAt rfl (.tmp 66) (.tmp 68) 24 24 rfl n 3 i0 (.int .i64 0) 1 8 Try.underlying24 hi hz0 hz1 hz2 rfl (.slice fa lf fc) lf (intCells d.F) rfl Fu2.out _ 1 (intCells [x]) rfl (src_intT Q1u2.out) ?c3 ?c4 ?c5 ?_
      case c3 => have := HLF.out; have := HFB.out; unfold maxLen; omega
      case c4 => have := HLF.out; have := HFB.out; omega
      case c5 => exact Nat.le_trans H4.out.size Ou2.out.size
      intro v1 u3 hown hgrow hfr
      obtain ⟨fa2, fc2, hve⟩ := own_shape hown
      subst hve
      rw [HLF.out] at hgrow
      have hoN : Only (SS (.slice fa d.F.length fc) (.slice va d.V.length vc)) u2 u3 := ⟨hgrow.os, hgrow.tape, hgrow.output, hgrow.size, fun k hk hne => hgrow.block k hk (fun e => hne (.inl e.symm))⟩
      have Ou3 := Lib.hid (Ou2.out.trans hoN)
      have Fu3 := Lib.hid hown
      have Vu3 : Hid (u3.ownsRow n 40 7 (.slice va lv vc) lv (vcells d.V)) := row_still Vu2.out fun b hb => hgrow.block b (Vu2.out.lt b hb).2 (fun e => two_kinds (T := 3) (T2 := 40) (by decide) (row_kindT (HLF.out ▸ Fu2.out) e.symm) (row_kindT Vu2.out hb))
      have FR : Hid (∀ b, (Value.slice fa2 (lf + 1) fc2).ownBlock = some b → (Value.slice fa d.F.length fc).ownBlock = some b ∨ wc.heap.size ≤ b) := fun b hb => by
        rcases hfr b hb with h | h
        · exact .inl (by rw [← HLF.out]; exact h)
        · exact .inr (Nat.le_trans Ou2.out.size h)
      have Q2u3 : Hid (_) := (hgrow.block _ (lt_of_block Q2u2.out) (fun e => two_kinds (T := 3) (T2 := 40) (by decide) (row_kindT (HLF.out ▸ Fu2.out) e.symm) ⟨_, Q2u2.out⟩)).trans Q2u2.out
      clear hown hgrow hfr hoN
      refine hK.out _ _ (HS.out _ Ou3.out) (fun hHeld => ?_)
      clear hK K
      try simp only [Act.put]
      try simp only [List.setIfInBounds_toArray]
      rotate_left
      try simp only [Go.wp_at_succ, Go.wp_at_zero]
      go_simp
      have bN : Below u0.heap.size u0 (u0.alloc (.cells #[.int .i64 x] 3)) := (Below.refl _ _).alloc (Nat.le_refl _) _
      refine hK.out _ _ (HS.out _ (Ou0.out.then (Only.of (S := fun _ => False) bN) (fun _ _ h => h.elim))) (fun hHeld => ?_)
      clear hK K
      try simp only [Act.put, List.setIfInBounds_toArray, List.set_cons_zero, List.set_cons_succ]
      obtain ⟨u1, hN⟩ : ∃ u, u = u0.alloc (.cells #[.int .i64 x] 3) := ⟨_, rfl⟩
      rw [← hN] at hHeld bN ⊢
      have Ou1 := Lib.hid (Ou0.out.then (Only.of (S := fun _ => False) bN) (fun _ _ h => h.elim))
      have Fu1 := Lib.hid (rowOn Fu0.out bN)
      have Vu1 := Lib.hid (rowOn Vu0.out bN)
      obtain ⟨q1, hq⟩ : ∃ q, q = u0.heap.size := ⟨_, rfl⟩
      have Q1u1 : Hid (u1.heap[q1]? = some (.cells #[.int .i64 x] 3 (0, 0))) := by rw [hN, hq]; exact heap_alloc_new u0 _
      rw [← hq]
      clear hN hq bN
      refine wpAnyH_ready (rs := [5, 12, 14]) (by kernel_rfl) (by simp) (AllReadyH.cons rfl (fun K hK => ?_) (AllReadyH.cons rfl (fun K hK => ?_) (AllReadyH.cons rfl (fun K hK => ?_) AllReadyH.nil)))
      have xc := (HX.out _ Ou1.out).cells
      rw [← HLF.out, ← HLV.out] at xc
      obtain ⟨_, _, _, _, _, x5, x6, _⟩ := xc
      try simp only [Go.wp_at_succ, Go.wp_at_zero]
      go_simp
      refine hK.out _ _ (HS.out _ Ou1.out) (fun hHeld => ?_)
      clear hK K x5 x6
      try simp only [Act.put, List.setIfInBounds_toArray, List.set_cons_zero, List.set_cons_succ]
      refine wpAnyH_ready (rs := [8, 12, 14]) (by kernel_rfl) (by simp) (AllReadyH.cons rfl (fun K hK => ?_) (AllReadyH.cons rfl (fun K hK => ?_) (AllReadyH.cons rfl (fun K hK => ?_) AllReadyH.nil)))
      refine stepAppAt rfl (.tmp 66) (.tmp 68) 24 24 rfl n 3 i0 (.int .i64 0) 1 8 Try.underlying24 hi hz0 hz1 hz2 rfl (.slice fa lf fc) lf (intCells d.F) rfl Fu1.out _ 1 (intCells [x]) rfl (src_intT Q1u1.out) ?c3 ?c4 ?c5 ?_
      case c3 => have := HLF.out; have := HFB.out; unfold maxLen; omega
      case c4 => have := HLF.out; have := HFB.out; omega
      case c5 => exact Nat.le_trans H4.out.size Ou1.out.size
      intro v1 u2 hown hgrow hfr
      obtain ⟨fa2, fc2, hve⟩ := own_shape hown
      subst hve
      rw [HLF.out] at hgrow
      have hoN : Only (SS (.slice fa d.F.length fc) (.slice va d.V.length vc)) u1 u2 := ⟨hgrow.os, hgrow.tape, hgrow.output, hgrow.size, fun k hk hne => hgrow.block k hk (fun e => hne (.inl e.symm))⟩
      have Ou2 := Lib.hid (Ou1.out.trans hoN)
      have Fu2 := Lib.hid hown
      have Vu2 : Hid (u2.ownsRow n 40 7 (.slice va lv vc) lv (vcells d.V)) := row_still Vu1.out fun b hb => hgrow.block b (Vu1.out.lt b hb).2 (fun e => two_kinds (T := 3) (T2 := 40) (by decide) (row_kindT (HLF.out ▸ Fu1.out) e.symm) (row_kindT Vu1.out hb))
      have FR : Hid (∀ b, (Value.slice fa2 (lf + 1) fc2).ownBlock = some b → (Value.slice fa d.F.length fc).ownBlock = some b ∨ wc.heap.size ≤ b) := fun b hb => by
        rcases hfr b hb with h | h
        · exact .inl (by rw [← HLF.out]; exact h)
        · exact .inr (Nat.le_trans Ou1.out.size h)
      clear hown hgrow hfr hoN
      refine hK.out _ _ (HS.out _ Ou2.out) (fun hHeld => ?_)
      clear hK K
      try simp only [Act.put]
      try simp only [List.setIfInBounds_toArray]
      refine wpAnyH_ready (rs := [12, 14]) (by kernel_rfl) (by simp) (AllReadyH.cons rfl (fun K hK => ?_) (AllReadyH.cons rfl (fun K hK => ?_) AllReadyH.nil))
      have xc := (HX.out _ Ou2.out).cells
      rw [← HLF.out, ← HLV.out] at xc
      obtain ⟨_, _, _, _, _, x5, x6, _⟩ := xc
      try simp only [Go.wp_at_succ, Go.wp_at_zero]
      go_simp
      refine hK.out _ _ (HS.out _ Ou2.out) (fun hHeld => ?_)
      clear hK K x5 x6
      try simp only [Act.put, List.setIfInBounds_toArray, List.set_cons_zero, List.set_cons_succ]
      refine wpAnyH_ready (rs := [14]) (by kernel_rfl) (by simp) (AllReadyH.cons rfl (fun K hK => ?_) AllReadyH.nil)
      try simp only [Go.wp_at_succ, Go.wp_at_zero]
      go_simp
      have bN : Below u2.heap.size u2 (u2.alloc (.cells #[.int .i64 pr, .int .i64 pn, .int .i64 ar, .int .i64 an, .bool has, .int .i64 vce, .slice a0 m c0] 40)) := (Below.refl _ _).alloc (Nat.le_refl _) _
      refine hK.out _ _ (HS.out _ (Ou2.out.then (Only.of (S := fun _ => False) bN) (fun _ _ h => h.elim))) (fun hHeld => ?_)
      clear hK K
      try simp only [Act.put, List.setIfInBounds_toArray, List.set_cons_zero, List.set_cons_succ]
      obtain ⟨u3, hN⟩ : ∃ u, u = u2.alloc (.cells #[.int .i64 pr, .int .i64 pn, .int .i64 ar, .int .i64 an, .bool has, .int .i64 vce, .slice a0 m c0] 40) := ⟨_, rfl⟩
      rw [← hN] at hHeld bN ⊢
      have Ou3 := Lib.hid (Ou2.out.then (Only.of (S := fun _ => False) bN) (fun _ _ h => h.elim))
      have Fu3 := Lib.hid (rowOn Fu2.out bN)
      have Vu3 := Lib.hid (rowOn Vu2.out bN)
      obtain ⟨q2, hq⟩ : ∃ q, q = u2.heap.size := ⟨_, rfl⟩
      have Q2u3 : Hid (u3.heap[q2]? = some (.cells (vcell ⟨⟨pr, pn, ar, an, has, vce, C⟩, .slice a0 m c0⟩).toArray 40 (0, 0))) := by rw [hN, hq]; exact heap_alloc_new u2 _
      rw [← hq]
      clear hN hq bN
      rotate_left
      try simp only [Go.wp_at_succ, Go.wp_at_zero]
      go_simp
      have bN : Below u2.heap.size u2 (u2.alloc (.cells #[.int .i64 pr, .int .i64 pn, .int .i64 ar, .int .i64 an, .bool has, .int .i64 vce, .slice a0 m c0] 40)) := (Below.refl _ _).alloc (Nat.le_refl _) _
      refine hK.out _ _ (HS.out _ (Ou2.out.then (Only.of (S := fun _ => False) bN) (fun _ _ h => h.elim))) (fun hHeld => ?_)
      clear hK K
      try simp only [Act.put, List.setIfInBounds_toArray, List.set_cons_zero, List.set_cons_succ]
      obtain ⟨u3, hN⟩ : ∃ u, u = u2.alloc (.cells #[.int .i64 pr, .int .i64 pn, .int .i64 ar, .int .i64 an, .bool has, .int .i64 vce, .slice a0 m c0] 40) := ⟨_, rfl⟩
      rw [← hN] at hHeld bN ⊢
      have Ou3 := Lib.hid (Ou2.out.then (Only.of (S := fun _ => False) bN) (fun _ _ h => h.elim))
      have Fu3 := Lib.hid (rowOn Fu2.out bN)
      have Vu3 := Lib.hid (rowOn Vu2.out bN)
      obtain ⟨q2, hq⟩ : ∃ q, q = u2.heap.size := ⟨_, rfl⟩
      have Q2u3 : Hid (u3.heap[q2]? = some (.cells (vcell ⟨⟨pr, pn, ar, an, has, vce, C⟩, .slice a0 m c0⟩).toArray 40 (0, 0))) := by rw [hN, hq]; exact heap_alloc_new u2 _
      rw [← hq]
      clear hN hq bN
      refine wpAnyH_ready (rs := [12]) (by kernel_rfl) (by simp) (AllReadyH.cons rfl (fun K hK => ?_) AllReadyH.nil)
      have xc := (HX.out _ Ou3.out).cells
      rw [← HLF.out, ← HLV.out] at xc
      obtain ⟨_, _, _, _, _, x5, x6, _⟩ := xc
      try simp only [Go.wp_at_succ, Go.wp_at_zero]
      go_simp
      refine hK.out _ _ (HS.out _ Ou3.out) (fun hHeld => ?_)
      clear hK K x5 x6
      try simp only [Act.put, List.setIfInBounds_toArray, List.set_cons_zero, List.set_cons_succ]
      rotate_left
      have xc := (HX.out _ Ou1.out).cells
      rw [← HLF.out, ← HLV.out] at xc
      obtain ⟨_, _, _, _, _, x5, x6, _⟩ := xc
      try simp only [Go.wp_at_succ, Go.wp_at_zero]
      go_simp
      refine hK.out _ _ (HS.out _ Ou1.out) (fun hHeld => ?_)
      clear hK K x5 x6
      try simp only [Act.put, List.setIfInBounds_toArray, List.set_cons_zero, List.set_cons_succ]
      refine wpAnyH_ready (rs := [8, 14]) (by kernel_rfl) (by simp) (AllReadyH.cons rfl (fun K hK => ?_) (AllReadyH.cons rfl (fun K hK => ?_) AllReadyH.nil))
      refine stepAppAt rfl (.tmp 66) (.tmp 68) 24 24 rfl n 3 i0 (.int .i64 0) 1 8 Try.underlying24 hi hz0 hz1 hz2 rfl (.slice fa lf fc) lf (intCells d.F) rfl Fu1.out _ 1 (intCells [x]) rfl (src_intT Q1u1.out) ?c3 ?c4 ?c5 ?_
      case c3 => have := HLF.out; have := HFB.out; unfold maxLen; omega
      case c4 => have := HLF.out; have := HFB.out; omega
      case c5 => exact Nat.le_trans H4.out.size Ou1.out.size
      intro v1 u2 hown hgrow hfr
      obtain ⟨fa2, fc2, hve⟩ := own_shape hown
      subst hve
      rw [HLF.out] at hgrow
      have hoN : Only (SS (.slice fa d.F.length fc) (.slice va d.V.length vc)) u1 u2 := ⟨hgrow.os, hgrow.tape, hgrow.output, hgrow.size, fun k hk hne => hgrow.block k hk (fun e => hne (.inl e.symm))⟩
      have Ou2 := Lib.hid (Ou1.out.trans hoN)
      have Fu2 := Lib.hid hown
      have Vu2 : Hid (u2.ownsRow n 40 7 (.slice va lv vc) lv (vcells d.V)) := row_still Vu1.out fun b hb => hgrow.block b (Vu1.out.lt b hb).2 (fun e => two_kinds (T := 3) (T2 := 40) (by decide) (row_kindT (HLF.out ▸ Fu1.out) e.symm) (row_kindT Vu1.out hb))
      have FR : Hid (∀ b, (Value.slice fa2 (lf + 1) fc2).ownBlock = some b → (Value.slice fa d.F.length fc).ownBlock = some b ∨ wc.heap.size ≤ b) := fun b hb => by
        rcases hfr b hb with h | h
        · exact .inl (by rw [← HLF.out]; exact h)
        · exact .inr (Nat.le_trans Ou1.out.size h)
      clear hown hgrow hfr hoN
      refine hK.out _ _ (HS.out _ Ou2.out) (fun hHeld => ?_)
      clear hK K
      try simp only [Act.put]
      try simp only [List.setIfInBounds_toArray]
      refine wpAnyH_ready (rs := [14]) (by kernel_rfl) (by simp) (AllReadyH.cons rfl (fun K hK => ?_) AllReadyH.nil)
      try simp only [Go.wp_at_succ, Go.wp_at_zero]
      go_simp
      have bN : Below u2.heap.size u2 (u2.alloc (.cells #[.int .i64 pr, .int .i64 pn, .int .i64 ar, .int .i64 an, .bool has, .int .i64 vce, .slice a0 m c0] 40)) := (Below.refl _ _).alloc (Nat.le_refl _) _
      refine hK.out _ _ (HS.out _ (Ou2.out.then (Only.of (S := fun _ => False) bN) (fun _ _ h => h.elim))) (fun hHeld => ?_)
      clear hK K
      try simp only [Act.put, List.setIfInBounds_toArray, List.set_cons_zero, List.set_cons_succ]
      obtain ⟨u3, hN⟩ : ∃ u, u = u2.alloc (.cells #[.int .i64 pr, .int .i64 pn, .int .i64 ar, .int .i64 an, .bool has, .int .i64 vce, .slice a0 m c0] 40) := ⟨_, rfl⟩
      rw [← hN] at hHeld bN ⊢
      have Ou3 := Lib.hid (Ou2.out.then (Only.of (S := fun _ => False) bN) (fun _ _ h => h.elim))
      have Fu3 := Lib.hid (rowOn Fu2.out bN)
      have Vu3 := Lib.hid (rowOn Vu2.out bN)
      obtain ⟨q2, hq⟩ : ∃ q, q = u2.heap.size := ⟨_, rfl⟩
      have Q2u3 : Hid (u3.heap[q2]? = some (.cells (vcell ⟨⟨pr, pn, ar, an, has, vce, C⟩, .slice a0 m c0⟩).toArray 40 (0, 0))) := by rw [hN, hq]; exact heap_alloc_new u2 _
      rw [← hq]
      clear hN hq bN
      rotate_left
      try simp only [Go.wp_at_succ, Go.wp_at_zero]
      go_simp
      have bN : Below u1.heap.size u1 (u1.alloc (.cells #[.int .i64 pr, .int .i64 pn, .int .i64 ar, .int .i64 an, .bool has, .int .i64 vce, .slice a0 m c0] 40)) := (Below.refl _ _).alloc (Nat.le_refl _) _
      refine hK.out _ _ (HS.out _ (Ou1.out.then (Only.of (S := fun _ => False) bN) (fun _ _ h => h.elim))) (fun hHeld => ?_)
      clear hK K
      try simp only [Act.put, List.setIfInBounds_toArray, List.set_cons_zero, List.set_cons_succ]
      obtain ⟨u2, hN⟩ : ∃ u, u = u1.alloc (.cells #[.int .i64 pr, .int .i64 pn, .int .i64 ar, .int .i64 an, .bool has, .int .i64 vce, .slice a0 m c0] 40) := ⟨_, rfl⟩
      rw [← hN] at hHeld bN ⊢
      have Ou2 := Lib.hid (Ou1.out.then (Only.of (S := fun _ => False) bN) (fun _ _ h => h.elim))
      have Fu2 := Lib.hid (rowOn Fu1.out bN)
      have Vu2 := Lib.hid (rowOn Vu1.out bN)
      obtain ⟨q2, hq⟩ : ∃ q, q = u1.heap.size := ⟨_, rfl⟩
      have Q2u2 : Hid (u2.heap[q2]? = some (.cells (vcell ⟨⟨pr, pn, ar, an, has, vce, C⟩, .slice a0 m c0⟩).toArray 40 (0, 0))) := by rw [hN, hq]; exact heap_alloc_new u1 _
      rw [← hq]
      have Q1u2 : Hid (_) := (bN.block _ (lt_of_block Q1u1.out)).trans Q1u1.out
      clear hN hq bN
      refine wpAnyH_ready (rs := [8]) (by kernel_rfl) (by simp) (AllReadyH.cons rfl (fun K hK => ?_) AllReadyH.nil)
      refine stepAppAt rfl (.tmp 66) (.tmp 68) 24 24 rfl n 3 i0 (.int .i64 0) 1 8 Try.underlying24 hi hz0 hz1 hz2 rfl (.slice fa lf fc) lf (intCells d.F) rfl Fu2.out _ 1 (intCells [x]) rfl (src_intT Q1u2.out) ?c3 ?c4 ?c5 ?_
      case c3 => have := HLF.out; have := HFB.out; unfold maxLen; omega
      case c4 => have := HLF.out; have := HFB.out; omega
      case c5 => exact Nat.le_trans H4.out.size Ou2.out.size
      intro v1 u3 hown hgrow hfr
      obtain ⟨fa2, fc2, hve⟩ := own_shape hown
      subst hve
      rw [HLF.out] at hgrow
      have hoN : Only (SS (.slice fa d.F.length fc) (.slice va d.V.length vc)) u2 u3 := ⟨hgrow.os, hgrow.tape, hgrow.output, hgrow.size, fun k hk hne => hgrow.block k hk (fun e => hne (.inl e.symm))⟩
      have Ou3 := Lib.hid (Ou2.out.trans hoN)
      have Fu3 := Lib.hid hown
      have Vu3 : Hid (u3.ownsRow n 40 7 (.slice va lv vc) lv (vcells d.V)) := row_still Vu2.out fun b hb => hgrow.block b (Vu2.out.lt b hb).2 (fun e => two_kinds (T := 3) (T2 := 40) (by decide) (row_kindT (HLF.out ▸ Fu2.out) e.symm) (row_kindT Vu2.out hb))
      have FR : Hid (∀ b, (Value.slice fa2 (lf + 1) fc2).ownBlock = some b → (Value.slice fa d.F.length fc).ownBlock = some b ∨ wc.heap.size ≤ b) := fun b hb => by
        rcases hfr b hb with h | h
        · exact .inl (by rw [← HLF.out]; exact h)
        · exact .inr (Nat.le_trans Ou2.out.size h)
      have Q2u3 : Hid (_) := (hgrow.block _ (lt_of_block Q2u2.out) (fun e => two_kinds (T := 3) (T2 := 40) (by decide) (row_kindT (HLF.out ▸ Fu2.out) e.symm) ⟨_, Q2u2.out⟩)).trans Q2u2.out
      clear hown hgrow hfr hoN
      refine hK.out _ _ (HS.out _ Ou3.out) (fun hHeld => ?_)
      clear hK K
      try simp only [Act.put]
      try simp only [List.setIfInBounds_toArray]
      rotate_left
      try simp only [Go.wp_at_succ, Go.wp_at_zero]
      go_simp
      have bN : Below u1.heap.size u1 (u1.alloc (.cells #[.int .i64 pr, .int .i64 pn, .int .i64 ar, .int .i64 an, .bool has, .int .i64 vce, .slice a0 m c0] 40)) := (Below.refl _ _).alloc (Nat.le_refl _) _
      refine hK.out _ _ (HS.out _ (Ou1.out.then (Only.of (S := fun _ => False) bN) (fun _ _ h => h.elim))) (fun hHeld => ?_)
      clear hK K
      try simp only [Act.put, List.setIfInBounds_toArray, List.set_cons_zero, List.set_cons_succ]
      obtain ⟨u2, hN⟩ : ∃ u, u = u1.alloc (.cells #[.int .i64 pr, .int .i64 pn, .int .i64 ar, .int .i64 an, .bool has, .int .i64 vce, .slice a0 m c0] 40) := ⟨_, rfl⟩
      rw [← hN] at hHeld bN ⊢
      have Ou2 := Lib.hid (Ou1.out.then (Only.of (S := fun _ => False) bN) (fun _ _ h => h.elim))
      have Fu2 := Lib.hid (rowOn Fu1.out bN)
      have Vu2 := Lib.hid (rowOn Vu1.out bN)
      obtain ⟨q2, hq⟩ : ∃ q, q = u1.heap.size := ⟨_, rfl⟩
      have Q2u2 : Hid (u2.heap[q2]? = some (.cells (vcell ⟨⟨pr, pn, ar, an, has, vce, C⟩, .slice a0 m c0⟩).toArray 40 (0, 0))) := by rw [hN, hq]; exact heap_alloc_new u1 _
      rw [← hq]
      have Q1u2 : Hid (_) := (bN.block _ (lt_of_block Q1u1.out)).trans Q1u1.out
      clear hN hq bN
      refine wpAnyH_ready (rs := [8, 12]) (by kernel_rfl) (by simp) (AllReadyH.cons rfl (fun K hK => ?_) (AllReadyH.cons rfl (fun K hK => ?_) AllReadyH.nil))
      refine stepAppAt rfl (.tmp 66) (.tmp 68) 24 24 rfl n 3 i0 (.int .i64 0) 1 8 Try.underlying24 hi hz0 hz1 hz2 rfl (.slice fa lf fc) lf (intCells d.F) rfl Fu2.out _ 1 (intCells [x]) rfl (src_intT Q1u2.out) ?c3 ?c4 ?c5 ?_
      case c3 => have := HLF.out; have := HFB.out; unfold maxLen; omega
      case c4 => have := HLF.out; have := HFB.out; omega
      case c5 => exact Nat.le_trans H4.out.size Ou2.out.size
      intro v1 u3 hown hgrow hfr
      obtain ⟨fa2, fc2, hve⟩ := own_shape hown
      subst hve
      rw [HLF.out] at hgrow
      have hoN : Only (SS (.slice fa d.F.length fc) (.slice va d.V.length vc)) u2 u3 := ⟨hgrow.os, hgrow.tape, hgrow.output, hgrow.size, fun k hk hne => hgrow.block k hk (fun e => hne (.inl e.symm))⟩
      have Ou3 := Lib.hid (Ou2.out.trans hoN)
      have Fu3 := Lib.hid hown
      have Vu3 : Hid (u3.ownsRow n 40 7 (.slice va lv vc) lv (vcells d.V)) := row_still Vu2.out fun b hb => hgrow.block b (Vu2.out.lt b hb).2 (fun e => two_kinds (T := 3) (T2 := 40) (by decide) (row_kindT (HLF.out ▸ Fu2.out) e.symm) (row_kindT Vu2.out hb))
      have FR : Hid (∀ b, (Value.slice fa2 (lf + 1) fc2).ownBlock = some b → (Value.slice fa d.F.length fc).ownBlock = some b ∨ wc.heap.size ≤ b) := fun b hb => by
        rcases hfr b hb with h | h
        · exact .inl (by rw [← HLF.out]; exact h)
        · exact .inr (Nat.le_trans Ou2.out.size h)
      have Q2u3 : Hid (_) := (hgrow.block _ (lt_of_block Q2u2.out) (fun e => two_kinds (T := 3) (T2 := 40) (by decide) (row_kindT (HLF.out ▸ Fu2.out) e.symm) ⟨_, Q2u2.out⟩)).trans Q2u2.out
      clear hown hgrow hfr hoN
      refine hK.out _ _ (HS.out _ Ou3.out) (fun hHeld => ?_)
      clear hK K
      try simp only [Act.put]
      try simp only [List.setIfInBounds_toArray]
      refine wpAnyH_ready (rs := [12]) (by kernel_rfl) (by simp) (AllReadyH.cons rfl (fun K hK => ?_) AllReadyH.nil)
      have xc := (HX.out _ Ou3.out).cells
      rw [← HLF.out, ← HLV.out] at xc
      obtain ⟨_, _, _, _, _, x5, x6, _⟩ := xc
      try simp only [Go.wp_at_succ, Go.wp_at_zero]
      go_simp
      refine hK.out _ _ (HS.out _ Ou3.out) (fun hHeld => ?_)
      clear hK K x5 x6
      try simp only [Act.put, List.setIfInBounds_toArray, List.set_cons_zero, List.set_cons_succ]
      rotate_left
      have xc := (HX.out _ Ou2.out).cells
      rw [← HLF.out, ← HLV.out] at xc
      obtain ⟨_, _, _, _, _, x5, x6, _⟩ := xc
      try simp only [Go.wp_at_succ, Go.wp_at_zero]
      go_simp
      refine hK.out _ _ (HS.out _ Ou2.out) (fun hHeld => ?_)
      clear hK K x5 x6
      try simp only [Act.put, List.setIfInBounds_toArray, List.set_cons_zero, List.set_cons_succ]
      refine wpAnyH_ready (rs := [8]) (by kernel_rfl) (by simp) (AllReadyH.cons rfl (fun K hK => ?_) AllReadyH.nil)
      refine stepAppAt rfl (.tmp 66) (.tmp 68) 24 24 rfl n 3 i0 (.int .i64 0) 1 8 Try.underlying24 hi hz0 hz1 hz2 rfl (.slice fa lf fc) lf (intCells d.F) rfl Fu2.out _ 1 (intCells [x]) rfl (src_intT Q1u2.out) ?c3 ?c4 ?c5 ?_
      case c3 => have := HLF.out; have := HFB.out; unfold maxLen; omega
      case c4 => have := HLF.out; have := HFB.out; omega
      case c5 => exact Nat.le_trans H4.out.size Ou2.out.size
      intro v1 u3 hown hgrow hfr
      obtain ⟨fa2, fc2, hve⟩ := own_shape hown
      subst hve
      rw [HLF.out] at hgrow
      have hoN : Only (SS (.slice fa d.F.length fc) (.slice va d.V.length vc)) u2 u3 := ⟨hgrow.os, hgrow.tape, hgrow.output, hgrow.size, fun k hk hne => hgrow.block k hk (fun e => hne (.inl e.symm))⟩
      have Ou3 := Lib.hid (Ou2.out.trans hoN)
      have Fu3 := Lib.hid hown
      have Vu3 : Hid (u3.ownsRow n 40 7 (.slice va lv vc) lv (vcells d.V)) := row_still Vu2.out fun b hb => hgrow.block b (Vu2.out.lt b hb).2 (fun e => two_kinds (T := 3) (T2 := 40) (by decide) (row_kindT (HLF.out ▸ Fu2.out) e.symm) (row_kindT Vu2.out hb))
      have FR : Hid (∀ b, (Value.slice fa2 (lf + 1) fc2).ownBlock = some b → (Value.slice fa d.F.length fc).ownBlock = some b ∨ wc.heap.size ≤ b) := fun b hb => by
        rcases hfr b hb with h | h
        · exact .inl (by rw [← HLF.out]; exact h)
        · exact .inr (Nat.le_trans Ou2.out.size h)
      have Q2u3 : Hid (_) := (hgrow.block _ (lt_of_block Q2u2.out) (fun e => two_kinds (T := 3) (T2 := 40) (by decide) (row_kindT (HLF.out ▸ Fu2.out) e.symm) ⟨_, Q2u2.out⟩)).trans Q2u2.out
      clear hown hgrow hfr hoN
      refine hK.out _ _ (HS.out _ Ou3.out) (fun hHeld => ?_)
      clear hK K
      try simp only [Act.put]
      try simp only [List.setIfInBounds_toArray]
      rotate_left
      have xc := (HX.out _ Ou1.out).cells
      rw [← HLF.out, ← HLV.out] at xc
      obtain ⟨_, _, _, _, _, x5, x6, _⟩ := xc
      try simp only [Go.wp_at_succ, Go.wp_at_zero]
      go_simp
      refine hK.out _ _ (HS.out _ Ou1.out) (fun hHeld => ?_)
      clear hK K x5 x6
      try simp only [Act.put, List.setIfInBounds_toArray, List.set_cons_zero, List.set_cons_succ]
      refine wpAnyH_ready (rs := [5, 14]) (by kernel_rfl) (by simp) (AllReadyH.cons rfl (fun K hK => ?_) (AllReadyH.cons rfl (fun K hK => ?_) AllReadyH.nil))
      have xc := (HX.out _ Ou1.out).cells
      rw [← HLF.out, ← HLV.out] at xc
      obtain ⟨_, _, _, _, _, x5, x6, _⟩ := xc
      try simp only [Go.wp_at_succ, Go.wp_at_zero]
      go_simp
      refine hK.out _ _ (HS.out _ Ou1.out) (fun hHeld => ?_)
      clear hK K x5 x6
      try simp only [Act.put, List.setIfInBounds_toArray, List.set_cons_zero, List.set_cons_succ]
      refine wpAnyH_ready (rs := [8, 14]) (by kernel_rfl) (by simp) (AllReadyH.cons rfl (fun K hK => ?_) (AllReadyH.cons rfl (fun K hK => ?_) AllReadyH.nil))
      refine stepAppAt rfl (.tmp 66) (.tmp 68) 24 24 rfl n 3 i0 (.int .i64 0) 1 8 Try.underlying24 hi hz0 hz1 hz2 rfl (.slice fa lf fc) lf (intCells d.F) rfl Fu1.out _ 1 (intCells [x]) rfl (src_intT Q1u1.out) ?c3 ?c4 ?c5 ?_
      case c3 => have := HLF.out; have := HFB.out; unfold maxLen; omega
      case c4 => have := HLF.out; have := HFB.out; omega
      case c5 => exact Nat.le_trans H4.out.size Ou1.out.size
      intro v1 u2 hown hgrow hfr
      obtain ⟨fa2, fc2, hve⟩ := own_shape hown
      subst hve
      rw [HLF.out] at hgrow
      have hoN : Only (SS (.slice fa d.F.length fc) (.slice va d.V.length vc)) u1 u2 := ⟨hgrow.os, hgrow.tape, hgrow.output, hgrow.size, fun k hk hne => hgrow.block k hk (fun e => hne (.inl e.symm))⟩
      have Ou2 := Lib.hid (Ou1.out.trans hoN)
      have Fu2 := Lib.hid hown
      have Vu2 : Hid (u2.ownsRow n 40 7 (.slice va lv vc) lv (vcells d.V)) := row_still Vu1.out fun b hb => hgrow.block b (Vu1.out.lt b hb).2 (fun e => two_kinds (T := 3) (T2 := 40) (by decide) (row_kindT (HLF.out ▸ Fu1.out) e.symm) (row_kindT Vu1.out hb))
      have FR : Hid (∀ b, (Value.slice fa2 (lf + 1) fc2).ownBlock = some b → (Value.slice fa d.F.length fc).ownBlock = some b ∨ wc.heap.size ≤ b) := fun b hb => by
        rcases hfr b hb with h | h
        · exact .inl (by rw [← HLF.out]; exact h)
        · exact .inr (Nat.le_trans Ou1.out.size h)
      clear hown hgrow hfr hoN
      refine hK.out _ _ (HS.out _ Ou2.out) (fun hHeld => ?_)
      clear hK K
      try simp only [Act.put]
      try simp only [List.setIfInBounds_toArray]
      refine wpAnyH_ready (rs := [14]) (by kernel_rfl) (by simp) (AllReadyH.cons rfl (fun K hK => ?_) AllReadyH.nil)
      try simp only [Go.wp_at_succ, Go.wp_at_zero]
      go_simp
      have bN : Below u2.heap.size u2 (u2.alloc (.cells #[.int .i64 pr, .int .i64 pn, .int .i64 ar, .int .i64 an, .bool has, .int .i64 vce, .slice a0 m c0] 40)) := (Below.refl _ _).alloc (Nat.le_refl _) _
      refine hK.out _ _ (HS.out _ (Ou2.out.then (Only.of (S := fun _ => False) bN) (fun _ _ h => h.elim))) (fun hHeld => ?_)
      clear hK K
      try simp only [Act.put, List.setIfInBounds_toArray, List.set_cons_zero, List.set_cons_succ]
      obtain ⟨u3, hN⟩ : ∃ u, u = u2.alloc (.cells #[.int .i64 pr, .int .i64 pn, .int .i64 ar, .int .i64 an, .bool has, .int .i64 vce, .slice a0 m c0] 40) := ⟨_, rfl⟩
      rw [← hN] at hHeld bN ⊢
      have Ou3 := Lib.hid (Ou2.out.then (Only.of (S := fun _ => False) bN) (fun _ _ h => h.elim))
      have Fu3 := Lib.hid (rowOn Fu2.out bN)
      have Vu3 := Lib.hid (rowOn Vu2.out bN)
      obtain ⟨q2, hq⟩ : ∃ q, q = u2.heap.size := ⟨_, rfl⟩
      have Q2u3 : Hid (u3.heap[q2]? = some (.cells (vcell ⟨⟨pr, pn, ar, an, has, vce, C⟩, .slice a0 m c0⟩).toArray 40 (0, 0))) := by rw [hN, hq]; exact heap_alloc_new u2 _
      rw [← hq]
      clear hN hq bN
      rotate_left
      try simp only [Go.wp_at_succ, Go.wp_at_zero]
      go_simp
      have bN : Below u1.heap.size u1 (u1.alloc (.cells #[.int .i64 pr, .int .i64 pn, .int .i64 ar, .int .i64 an, .bool has, .int .i64 vce, .slice a0 m c0] 40)) := (Below.refl _ _).alloc (Nat.le_refl _) _
      refine hK.out _ _ (HS.out _ (Ou1.out.then (Only.of (S := fun _ => False) bN) (fun _ _ h => h.elim))) (fun hHeld => ?_)
      clear hK K
      try simp only [Act.put, List.setIfInBounds_toArray, List.set_cons_zero, List.set_cons_succ]
      obtain ⟨u2, hN⟩ : ∃ u, u = u1.alloc (.cells #[.int .i64 pr, .int .i64 pn, .int .i64 ar, .int .i64 an, .bool has, .int .i64 vce, .slice a0 m c0] 40) := ⟨_, rfl⟩
      rw [← hN] at hHeld bN ⊢
      have Ou2 := Lib.hid (Ou1.out.then (Only.of (S := fun _ => False) bN) (fun _ _ h => h.elim))
      have Fu2 := Lib.hid (rowOn Fu1.out bN)
      have Vu2 := Lib.hid (rowOn Vu1.out bN)
      obtain ⟨q2, hq⟩ : ∃ q, q = u1.heap.size := ⟨_, rfl⟩
      have Q2u2 : Hid (u2.heap[q2]? = some (.cells (vcell ⟨⟨pr, pn, ar, an, has, vce, C⟩, .slice a0 m c0⟩).toArray 40 (0, 0))) := by rw [hN, hq]; exact heap_alloc_new u1 _
      rw [← hq]
      have Q1u2 : Hid (_) := (bN.block _ (lt_of_block Q1u1.out)).trans Q1u1.out
      clear hN hq bN
      refine wpAnyH_ready (rs := [8]) (by kernel_rfl) (by simp) (AllReadyH.cons rfl (fun K hK => ?_) AllReadyH.nil)
      refine stepAppAt rfl (.tmp 66) (.tmp 68) 24 24 rfl n 3 i0 (.int .i64 0) 1 8 Try.underlying24 hi hz0 hz1 hz2 rfl (.slice fa lf fc) lf (intCells d.F) rfl Fu2.out _ 1 (intCells [x]) rfl (src_intT Q1u2.out) ?c3 ?c4 ?c5 ?_
      case c3 => have := HLF.out; have := HFB.out; unfold maxLen; omega
      case c4 => have := HLF.out; have := HFB.out; omega
      case c5 => exact Nat.le_trans H4.out.size Ou2.out.size
      intro v1 u3 hown hgrow hfr
      obtain ⟨fa2, fc2, hve⟩ := own_shape hown
      subst hve
      rw [HLF.out] at hgrow
      have hoN : Only (SS (.slice fa d.F.length fc) (.slice va d.V.length vc)) u2 u3 := ⟨hgrow.os, hgrow.tape, hgrow.output, hgrow.size, fun k hk hne => hgrow.block k hk (fun e => hne (.inl e.symm))⟩
      have Ou3 := Lib.hid (Ou2.out.trans hoN)
      have Fu3 := Lib.hid hown
      have Vu3 : Hid (u3.ownsRow n 40 7 (.slice va lv vc) lv (vcells d.V)) := row_still Vu2.out fun b hb => hgrow.block b (Vu2.out.lt b hb).2 (fun e => two_kinds (T := 3) (T2 := 40) (by decide) (row_kindT (HLF.out ▸ Fu2.out) e.symm) (row_kindT Vu2.out hb))
      have FR : Hid (∀ b, (Value.slice fa2 (lf + 1) fc2).ownBlock = some b → (Value.slice fa d.F.length fc).ownBlock = some b ∨ wc.heap.size ≤ b) := fun b hb => by
        rcases hfr b hb with h | h
        · exact .inl (by rw [← HLF.out]; exact h)
        · exact .inr (Nat.le_trans Ou2.out.size h)
      have Q2u3 : Hid (_) := (hgrow.block _ (lt_of_block Q2u2.out) (fun e => two_kinds (T := 3) (T2 := 40) (by decide) (row_kindT (HLF.out ▸ Fu2.out) e.symm) ⟨_, Q2u2.out⟩)).trans Q2u2.out
      clear hown hgrow hfr hoN
      refine hK.out _ _ (HS.out _ Ou3.out) (fun hHeld => ?_)
      clear hK K
      try simp only [Act.put]
      try simp only [List.setIfInBounds_toArray]
      rotate_left
      try simp only [Go.wp_at_succ, Go.wp_at_zero]
      go_simp
      have bN : Below u1.heap.size u1 (u1.alloc (.cells #[.int .i64 pr, .int .i64 pn, .int .i64 ar, .int .i64 an, .bool has, .int .i64 vce, .slice a0 m c0] 40)) := (Below.refl _ _).alloc (Nat.le_refl _) _
      refine hK.out _ _ (HS.out _ (Ou1.out.then (Only.of (S := fun _ => False) bN) (fun _ _ h => h.elim))) (fun hHeld => ?_)
      clear hK K
      try simp only [Act.put, List.setIfInBounds_toArray, List.set_cons_zero, List.set_cons_succ]
      obtain ⟨u2, hN⟩ : ∃ u, u = u1.alloc (.cells #[.int .i64 pr, .int .i64 pn, .int .i64 ar, .int .i64 an, .bool has, .int .i64 vce, .slice a0 m c0] 40) := ⟨_, rfl⟩
      rw [← hN] at hHeld bN ⊢
      have Ou2 := Lib.hid (Ou1.out.then (Only.of (S := fun _ => False) bN) (fun _ _ h => h.elim))
      have Fu2 := Lib.hid (rowOn Fu1.out bN)
      have Vu2 := Lib.hid (rowOn Vu1.out bN)
      obtain ⟨q2, hq⟩ : ∃ q, q = u1.heap.size := ⟨_, rfl⟩
      have Q2u2 : Hid (u2.heap[q2]? = some (.cells (vcell ⟨⟨pr, pn, ar, an, has, vce, C⟩, .slice a0 m c0⟩).toArray 40 (0, 0))) := by rw [hN, hq]; exact heap_alloc_new u1 _
      rw [← hq]
      have Q1u2 : Hid (_) := (bN.block _ (lt_of_block Q1u1.out)).trans Q1u1.out
      clear hN hq bN
      refine wpAnyH_ready (rs := [5]) (by kernel_rfl) (by simp) (AllReadyH.cons rfl (fun K hK => ?_) AllReadyH.nil)
      have xc := (HX.out _ Ou2.out).cells
      rw [← HLF.out, ← HLV.out] at xc
      obtain ⟨_, _, _, _, _, x5, x6, _⟩ := xc
      try simp only [Go.wp_at_succ, Go.wp_at_zero]
      go_simp
      refine hK.out _ _ (HS.out _ Ou2.out) (fun hHeld => ?_)
      clear hK K x5 x6
      try simp only [Act.put, List.setIfInBounds_toArray, List.set_cons_zero, List.set_cons_succ]
      refine wpAnyH_ready (rs := [8]) (by kernel_rfl) (by simp) (AllReadyH.cons rfl (fun K hK => ?_) AllReadyH.nil)
      refine stepAppAt rfl (.tmp 66) (.tmp 68) 24 24 rfl n 3 i0 (.int .i64 0) 1 8 Try.underlying24 hi hz0 hz1 hz2 rfl (.slice fa lf fc) lf (intCells d.F) rfl Fu2.out _ 1 (intCells [x]) rfl (src_intT Q1u2.out) ?c3 ?c4 ?c5 ?_
      case c3 => have := HLF.out; have := HFB.out; unfold maxLen; omega
      case c4 => have := HLF.out; have := HFB.out; omega
      case c5 => exact Nat.le_trans H4.out.size Ou2.out.size
      intro v1 u3 hown hgrow hfr
      obtain ⟨fa2, fc2, hve⟩ := own_shape hown
      subst hve
      rw [HLF.out] at hgrow
      have hoN : Only (SS (.slice fa d.F.length fc) (.slice va d.V.length vc)) u2 u3 := ⟨hgrow.os, hgrow.tape, hgrow.output, hgrow.size, fun k hk hne => hgrow.block k hk (fun e => hne (.inl e.symm))⟩
      have Ou3 := Lib.hid (Ou2.out.trans hoN)
      have Fu3 := Lib.hid hown
      have Vu3 : Hid (u3.ownsRow n 40 7 (.slice va lv vc) lv (vcells d.V)) := row_still Vu2.out fun b hb => hgrow.block b (Vu2.out.lt b hb).2 (fun e => two_kinds (T := 3) (T2 := 40) (by decide) (row_kindT (HLF.out ▸ Fu2.out) e.symm) (row_kindT Vu2.out hb))
      have FR : Hid (∀ b, (Value.slice fa2 (lf + 1) fc2).ownBlock = some b → (Value.slice fa d.F.length fc).ownBlock = some b ∨ wc.heap.size ≤ b) := fun b hb => by
        rcases hfr b hb with h | h
        · exact .inl (by rw [← HLF.out]; exact h)
        · exact .inr (Nat.le_trans Ou2.out.size h)
      have Q2u3 : Hid (_) := (hgrow.block _ (lt_of_block Q2u2.out) (fun e => two_kinds (T := 3) (T2 := 40) (by decide) (row_kindT (HLF.out ▸ Fu2.out) e.symm) ⟨_, Q2u2.out⟩)).trans Q2u2.out
      clear hown hgrow hfr hoN
      refine hK.out _ _ (HS.out _ Ou3.out) (fun hHeld => ?_)
      clear hK K
      try simp only [Act.put]
      try simp only [List.setIfInBounds_toArray]
      rotate_left
      try simp only [Go.wp_at_succ, Go.wp_at_zero]
      go_simp
      have bN : Below u1.heap.size u1 (u1.alloc (.cells #[.int .i64 pr, .int .i64 pn, .int .i64 ar, .int .i64 an, .bool has, .int .i64 vce, .slice a0 m c0] 40)) := (Below.refl _ _).alloc (Nat.le_refl _) _
      refine hK.out _ _ (HS.out _ (Ou1.out.then (Only.of (S := fun _ => False) bN) (fun _ _ h => h.elim))) (fun hHeld => ?_)
      clear hK K
      try simp only [Act.put, List.setIfInBounds_toArray, List.set_cons_zero, List.set_cons_succ]
      obtain ⟨u2, hN⟩ : ∃ u, u = u1.alloc (.cells #[.int .i64 pr, .int .i64 pn, .int .i64 ar, .int .i64 an, .bool has, .int .i64 vce, .slice a0 m c0] 40) := ⟨_, rfl⟩
      rw [← hN] at hHeld bN ⊢
      have Ou2 := Lib.hid (Ou1.out.then (Only.of (S := fun _ => False) bN) (fun _ _ h => h.elim))
      have Fu2 := Lib.hid (rowOn Fu1.out bN)
      have Vu2 := Lib.hid (rowOn Vu1.out bN)
      obtain ⟨q2, hq⟩ : ∃ q, q = u1.heap.size := ⟨_, rfl⟩
      have Q2u2 : Hid (u2.heap[q2]? = some (.cells (vcell ⟨⟨pr, pn, ar, an, has, vce, C⟩, .slice a0 m c0⟩).toArray 40 (0, 0))) := by rw [hN, hq]; exact heap_alloc_new u1 _
      rw [← hq]
      have Q1u2 : Hid (_) := (bN.block _ (lt_of_block Q1u1.out)).trans Q1u1.out
      clear hN hq bN
      refine wpAnyH_ready (rs := [5, 12]) (by kernel_rfl) (by simp) (AllReadyH.cons rfl (fun K hK => ?_) (AllReadyH.cons rfl (fun K hK => ?_) AllReadyH.nil))
      have xc := (HX.out _ Ou2.out).cells
      rw [← HLF.out, ← HLV.out] at xc
      obtain ⟨_, _, _, _, _, x5, x6, _⟩ := xc
      try simp only [Go.wp_at_succ, Go.wp_at_zero]
      go_simp
      refine hK.out _ _ (HS.out _ Ou2.out) (fun hHeld => ?_)
      clear hK K x5 x6
      try simp only [Act.put, List.setIfInBounds_toArray, List.set_cons_zero, List.set_cons_succ]
      refine wpAnyH_ready (rs := [8, 12]) (by kernel_rfl) (by simp) (AllReadyH.cons rfl (fun K hK => ?_) (AllReadyH.cons rfl (fun K hK => ?_) AllReadyH.nil))
      refine stepAppAt rfl (.tmp 66) (.tmp 68) 24 24 rfl n 3 i0 (.int .i64 0) 1 8 Try.underlying24 hi hz0 hz1 hz2 rfl (.slice fa lf fc) lf (intCells d.F) rfl Fu2.out _ 1 (intCells [x]) rfl (src_intT Q1u2.out) ?c3 ?c4 ?c5 ?_
      case c3 => have := HLF.out; have := HFB.out; unfold maxLen; omega
      case c4 => have := HLF.out; have := HFB.out; omega
      case c5 => exact Nat.le_trans H4.out.size Ou2.out.size
      intro v1 u3 hown hgrow hfr
      obtain ⟨fa2, fc2, hve⟩ := own_shape hown
      subst hve
      rw [HLF.out] at hgrow
      have hoN : Only (SS (.slice fa d.F.length fc) (.slice va d.V.length vc)) u2 u3 := ⟨hgrow.os, hgrow.tape, hgrow.output, hgrow.size, fun k hk hne => hgrow.block k hk (fun e => hne (.inl e.symm))⟩
      have Ou3 := Lib.hid (Ou2.out.trans hoN)
      have Fu3 := Lib.hid hown
      have Vu3 : Hid (u3.ownsRow n 40 7 (.slice va lv vc) lv (vcells d.V)) := row_still Vu2.out fun b hb => hgrow.block b (Vu2.out.lt b hb).2 (fun e => two_kinds (T := 3) (T2 := 40) (by decide) (row_kindT (HLF.out ▸ Fu2.out) e.symm) (row_kindT Vu2.out hb))
      have FR : Hid (∀ b, (Value.slice fa2 (lf + 1) fc2).ownBlock = some b → (Value.slice fa d.F.length fc).ownBlock = some b ∨ wc.heap.size ≤ b) := fun b hb => by
        rcases hfr b hb with h | h
        · exact .inl (by rw [← HLF.out]; exact h)
        · exact .inr (Nat.le_trans Ou2.out.size h)
      have Q2u3 : Hid (_) := (hgrow.block _ (lt_of_block Q2u2.out) (fun e => two_kinds (T := 3) (T2 := 40) (by decide) (row_kindT (HLF.out ▸ Fu2.out) e.symm) ⟨_, Q2u2.out⟩)).trans Q2u2.out
      clear hown hgrow hfr hoN
      refine hK.out _ _ (HS.out _ Ou3.out) (fun hHeld => ?_)
      clear hK K
      try simp only [Act.put]
      try simp only [List.setIfInBounds_toArray]
      refine wpAnyH_ready (rs := [12]) (by kernel_rfl) (by simp) (AllReadyH.cons rfl (fun K hK => ?_) AllReadyH.nil)
      have xc := (HX.out _ Ou3.out).cells
      rw [← HLF.out, ← HLV.out] at xc
      obtain ⟨_, _, _, _, _, x5, x6, _⟩ := xc
      try simp only [Go.wp_at_succ, Go.wp_at_zero]
      go_simp
      refine hK.out _ _ (HS.out _ Ou3.out) (fun hHeld => ?_)
      clear hK K x5 x6
      try simp only [Act.put, List.setIfInBounds_toArray, List.set_cons_zero, List.set_cons_succ]
      rotate_left
      have xc := (HX.out _ Ou2.out).cells
      rw [← HLF.out, ← HLV.out] at xc
      obtain ⟨_, _, _, _, _, x5, x6, _⟩ := xc
      try simp only [Go.wp_at_succ, Go.wp_at_zero]
      go_simp
      refine hK.out _ _ (HS.out _ Ou2.out) (fun hHeld => ?_)
      clear hK K x5 x6
      try simp only [Act.put, List.setIfInBounds_toArray, List.set_cons_zero, List.set_cons_succ]
      refine wpAnyH_ready (rs := [8]) (by kernel_rfl) (by simp) (AllReadyH.cons rfl (fun K hK => ?_) AllReadyH.nil)
      refine stepAppAt rfl (.tmp 66) (.tmp 68) 24 24 rfl n 3 i0 (.int .i64 0) 1 8 Try.underlying24 hi hz0 hz1 hz2 rfl (.slice fa lf fc) lf (intCells d.F) rfl Fu2.out _ 1 (intCells [x]) rfl (src_intT Q1u2.out) ?c3 ?c4 ?c5 ?_
      case c3 => have := HLF.out; have := HFB.out; unfold maxLen; omega
      case c4 => have := HLF.out; have := HFB.out; omega
      case c5 => exact Nat.le_trans H4.out.size Ou2.out.size
      intro v1 u3 hown hgrow hfr
      obtain ⟨fa2, fc2, hve⟩ := own_shape hown
      subst hve
      rw [HLF.out] at hgrow
      have hoN : Only (SS (.slice fa d.F.length fc) (.slice va d.V.length vc)) u2 u3 := ⟨hgrow.os, hgrow.tape, hgrow.output, hgrow.size, fun k hk hne => hgrow.block k hk (fun e => hne (.inl e.symm))⟩
      have Ou3 := Lib.hid (Ou2.out.trans hoN)
      have Fu3 := Lib.hid hown
      have Vu3 : Hid (u3.ownsRow n 40 7 (.slice va lv vc) lv (vcells d.V)) := row_still Vu2.out fun b hb => hgrow.block b (Vu2.out.lt b hb).2 (fun e => two_kinds (T := 3) (T2 := 40) (by decide) (row_kindT (HLF.out ▸ Fu2.out) e.symm) (row_kindT Vu2.out hb))
      have FR : Hid (∀ b, (Value.slice fa2 (lf + 1) fc2).ownBlock = some b → (Value.slice fa d.F.length fc).ownBlock = some b ∨ wc.heap.size ≤ b) := fun b hb => by
        rcases hfr b hb with h | h
        · exact .inl (by rw [← HLF.out]; exact h)
        · exact .inr (Nat.le_trans Ou2.out.size h)
      have Q2u3 : Hid (_) := (hgrow.block _ (lt_of_block Q2u2.out) (fun e => two_kinds (T := 3) (T2 := 40) (by decide) (row_kindT (HLF.out ▸ Fu2.out) e.symm) ⟨_, Q2u2.out⟩)).trans Q2u2.out
      clear hown hgrow hfr hoN
      refine hK.out _ _ (HS.out _ Ou3.out) (fun hHeld => ?_)
      clear hK K
      try simp only [Act.put]
      try simp only [List.setIfInBounds_toArray]
      rotate_left
      have xc := (HX.out _ Ou2.out).cells
      rw [← HLF.out, ← HLV.out] at xc
      obtain ⟨_, _, _, _, _, x5, x6, _⟩ := xc
      try simp only [Go.wp_at_succ, Go.wp_at_zero]
      go_simp
      refine hK.out _ _ (HS.out _ Ou2.out) (fun hHeld => ?_)
      clear hK K x5 x6
      try simp only [Act.put, List.setIfInBounds_toArray, List.set_cons_zero, List.set_cons_succ]
      refine wpAnyH_ready (rs := [5]) (by kernel_rfl) (by simp) (AllReadyH.cons rfl (fun K hK => ?_) AllReadyH.nil)
      have xc := (HX.out _ Ou2.out).cells
      rw [← HLF.out, ← HLV.out] at xc
      obtain ⟨_, _, _, _, _, x5, x6, _⟩ := xc
      try simp only [Go.wp_at_succ, Go.wp_at_zero]
      go_simp
      refine hK.out _ _ (HS.out _ Ou2.out) (fun hHeld => ?_)
      clear hK K x5 x6
      try simp only [Act.put, List.setIfInBounds_toArray, List.set_cons_zero, List.set_cons_succ]
      refine wpAnyH_ready (rs := [8]) (by kernel_rfl) (by simp) (AllReadyH.cons rfl (fun K hK => ?_) AllReadyH.nil)
      refine stepAppAt rfl (.tmp 66) (.tmp 68) 24 24 rfl n 3 i0 (.int .i64 0) 1 8 Try.underlying24 hi hz0 hz1 hz2 rfl (.slice fa lf fc) lf (intCells d.F) rfl Fu2.out _ 1 (intCells [x]) rfl (src_intT Q1u2.out) ?c3 ?c4 ?c5 ?_
      case c3 => have := HLF.out; have := HFB.out; unfold maxLen; omega
      case c4 => have := HLF.out; have := HFB.out; omega
      case c5 => exact Nat.le_trans H4.out.size Ou2.out.size
      intro v1 u3 hown hgrow hfr
      obtain ⟨fa2, fc2, hve⟩ := own_shape hown
      subst hve
      rw [HLF.out] at hgrow
      have hoN : Only (SS (.slice fa d.F.length fc) (.slice va d.V.length vc)) u2 u3 := ⟨hgrow.os, hgrow.tape, hgrow.output, hgrow.size, fun k hk hne => hgrow.block k hk (fun e => hne (.inl e.symm))⟩
      have Ou3 := Lib.hid (Ou2.out.trans hoN)
      have Fu3 := Lib.hid hown
      have Vu3 : Hid (u3.ownsRow n 40 7 (.slice va lv vc) lv (vcells d.V)) := row_still Vu2.out fun b hb => hgrow.block b (Vu2.out.lt b hb).2 (fun e => two_kinds (T := 3) (T2 := 40) (by decide) (row_kindT (HLF.out ▸ Fu2.out) e.symm) (row_kindT Vu2.out hb))
      have FR : Hid (∀ b, (Value.slice fa2 (lf + 1) fc2).ownBlock = some b → (Value.slice fa d.F.length fc).ownBlock = some b ∨ wc.heap.size ≤ b) := fun b hb => by
        rcases hfr b hb with h | h
        · exact .inl (by rw [← HLF.out]; exact h)
        · exact .inr (Nat.le_trans Ou2.out.size h)
      have Q2u3 : Hid (_) := (hgrow.block _ (lt_of_block Q2u2.out) (fun e => two_kinds (T := 3) (T2 := 40) (by decide) (row_kindT (HLF.out ▸ Fu2.out) e.symm) ⟨_, Q2u2.out⟩)).trans Q2u2.out
      clear hown hgrow hfr hoN
      refine hK.out _ _ (HS.out _ Ou3.out) (fun hHeld => ?_)
      clear hK K
      try simp only [Act.put]
      try simp only [List.setIfInBounds_toArray]
      rotate_left
      have xc := (HX.out _ Ou0.out).cells
      rw [← HLF.out, ← HLV.out] at xc
      obtain ⟨_, _, _, _, _, x5, x6, _⟩ := xc
      try simp only [Go.wp_at_succ, Go.wp_at_zero]
      go_simp
      refine hK.out _ _ (HS.out _ Ou0.out) (fun hHeld => ?_)
      clear hK K x5 x6
      try simp only [Act.put, List.setIfInBounds_toArray, List.set_cons_zero, List.set_cons_succ]
      refine wpAnyH_ready (rs := [5, 7, 14]) (by kernel_rfl) (by simp) (AllReadyH.cons rfl (fun K hK => ?_) (AllReadyH.cons rfl (fun K hK => ?_) (AllReadyH.cons rfl (fun K hK => ?_) AllReadyH.nil)))
      have xc := (HX.out _ Ou0.out).cells
      rw [← HLF.out, ← HLV.out] at xc
      obtain ⟨_, _, _, _, _, x5, x6, _⟩ := xc
      try simp only [Go.wp_at_succ, Go.wp_at_zero]
      go_simp
      refine hK.out _ _ (HS.out _ Ou0.out) (fun hHeld => ?_)
      clear hK K x5 x6
      try simp only [Act.put, List.setIfInBounds_toArray, List.set_cons_zero, List.set_cons_succ]
      refine wpAnyH_ready (rs := [7, 14]) (by kernel_rfl) (by simp) (AllReadyH.cons rfl (fun K hK => ?_) (AllReadyH.cons rfl (fun K hK => ?_) AllReadyH.nil))
      try simp only [Go.wp_at_succ, Go.wp_at_zero]
      go_simp
      have bN : Below u0.heap.size u0 (u0.alloc (.cells #[.int .i64 x] 3)) := (Below.refl _ _).alloc (Nat.le_refl _) _
      refine hK.out _ _ (HS.out _ (Ou0.out.then (Only.of (S := fun _ => False) bN) (fun _ _ h => h.elim))) (fun hHeld => ?_)
      clear hK K
      try simp only [Act.put, List.setIfInBounds_toArray, List.set_cons_zero, List.set_cons_succ]
      obtain ⟨u1, hN⟩ : ∃ u, u = u0.alloc (.cells #[.int .i64 x] 3) := ⟨_, rfl⟩
      rw [← hN] at hHeld bN ⊢
      have Ou1 := Lib.hid (Ou0.out.then (Only.of (S := fun _ => False) bN) (fun _ _ h => h.elim))
      have Fu1 := Lib.hid (rowOn Fu0.out bN)
      have Vu1 := Lib.hid (rowOn Vu0.out bN)
      obtain ⟨q1, hq⟩ : ∃ q, q = u0.heap.size := ⟨_, rfl⟩
      have Q1u1 : Hid (u1.heap[q1]? = some (.cells #[.int .i64 x] 3 (0, 0))) := by rw [hN, hq]; exact heap_alloc_new u0 _
      rw [← hq]
      clear hN hq bN
      refine wpAnyH_ready (rs := [8, 14]) (by kernel_rfl) (by simp) (AllReadyH.cons rfl (fun K hK => ?_) (AllReadyH.cons rfl (fun K hK => ?_) AllReadyH.nil))
      refine stepAppAt rfl (.tmp 66) (.tmp 68) 24 24 rfl n 3 i0 (.int .i64 0) 1 8 Try.underlying24 hi hz0 hz1 hz2 rfl (.slice fa lf fc) lf (intCells d.F) rfl Fu1.out _ 1 (intCells [x]) rfl (src_intT Q1u1.out) ?c3 ?c4 ?c5 ?_
      case c3 => have := HLF.out; have := HFB.out; unfold maxLen; omega
      case c4 => have := HLF.out; have := HFB.out; omega
      case c5 => exact Nat.le_trans H4.out.size Ou1.out.size
      intro v1 u2 hown hgrow hfr
      obtain ⟨fa2, fc2, hve⟩ := own_shape hown
      subst hve
      rw [HLF.out] at hgrow
      have hoN : Only (SS (.slice fa d.F.length fc) (.slice va d.V.length vc)) u1 u2 := ⟨hgrow.os, hgrow.tape, hgrow.output, hgrow.size, fun k hk hne => hgrow.block k hk (fun e => hne (.inl e.symm))⟩
      have Ou2 := Lib.hid (Ou1.out.trans hoN)
      have Fu2 := Lib.hid hown
      have Vu2 : Hid (u2.ownsRow n 40 7 (.slice va lv vc) lv (vcells d.V)) := row_still Vu1.out fun b hb => hgrow.block b (Vu1.out.lt b hb).2 (fun e => two_kinds (T := 3) (T2 := 40) (by decide) (row_kindT (HLF.out ▸ Fu1.out) e.symm) (row_kindT Vu1.out hb))
      have FR : Hid (∀ b, (Value.slice fa2 (lf + 1) fc2).ownBlock = some b → (Value.slice fa d.F.length fc).ownBlock = some b ∨ wc.heap.size ≤ b) := fun b hb => by
        rcases hfr b hb with h | h
        · exact .inl (by rw [← HLF.out]; exact h)
        · exact .inr (Nat.le_trans Ou1.out.size h)
      clear hown hgrow hfr hoN
      refine hK.out _ _ (HS.out _ Ou2.out) (fun hHeld => ?_)
      clear hK K
      try simp only [Act.put]
      try simp only [List.setIfInBounds_toArray]
      refine wpAnyH_ready (rs := [14]) (by kernel_rfl) (by simp) (AllReadyH.cons rfl (fun K hK => ?_) AllReadyH.nil)
      try simp only [Go.wp_at_succ, Go.wp_at_zero]
      go_simp
      have bN : Below u2.heap.size u2 (u2.alloc (.cells #[.int .i64 pr, .int .i64 pn, .int .i64 ar, .int .i64 an, .bool has, .int .i64 vce, .slice a0 m c0] 40)) := (Below.refl _ _).alloc (Nat.le_refl _) _
      refine hK.out _ _ (HS.out _ (Ou2.out.then (Only.of (S := fun _ => False) bN) (fun _ _ h => h.elim))) (fun hHeld => ?_)
      clear hK K
      try simp only [Act.put, List.setIfInBounds_toArray, List.set_cons_zero, List.set_cons_succ]
      obtain ⟨u3, hN⟩ : ∃ u, u = u2.alloc (.cells #[.int .i64 pr, .int .i64 pn, .int .i64 ar, .int .i64 an, .bool has, .int .i64 vce, .slice a0 m c0] 40) := ⟨_, rfl⟩
      rw [← hN] at hHeld bN ⊢
      have Ou3 := Lib.hid (Ou2.out.then (Only.of (S := fun _ => False) bN) (fun _ _ h => h.elim))
      have Fu3 := Lib.hid (rowOn Fu2.out bN)
      have Vu3 := Lib.hid (rowOn Vu2.out bN)
      obtain ⟨q2, hq⟩ : ∃ q, q = u2.heap.size := ⟨_, rfl⟩
      have Q2u3 : Hid (u3.heap[q2]? = some (.cells (vcell ⟨⟨pr, pn, ar, an, has, vce, C⟩, .slice a0 m c0⟩).toArray 40 (0, 0))) := by rw [hN, hq]; exact heap_alloc_new u2 _
      rw [← hq]
      clear hN hq bN
      rotate_left
      try simp only [Go.wp_at_succ, Go.wp_at_zero]
      go_simp
      have bN : Below u1.heap.size u1 (u1.alloc (.cells #[.int .i64 pr, .int .i64 pn, .int .i64 ar, .int .i64 an, .bool has, .int .i64 vce, .slice a0 m c0] 40)) := (Below.refl _ _).alloc (Nat.le_refl _) _
      refine hK.out _ _ (HS.out _ (Ou1.out.then (Only.of (S := fun _ => False) bN) (fun _ _ h => h.elim))) (fun hHeld => ?_)
      clear hK K
      try simp only [Act.put, List.setIfInBounds_toArray, List.set_cons_zero, List.set_cons_succ]
      obtain ⟨u2, hN⟩ : ∃ u, u = u1.alloc (.cells #[.int .i64 pr, .int .i64 pn, .int .i64 ar, .int .i64 an, .bool has, .int .i64 vce, .slice a0 m c0] 40) := ⟨_, rfl⟩
      rw [← hN] at hHeld bN ⊢
      have Ou2 := Lib.hid (Ou1.out.then (Only.of (S := fun _ => False) bN) (fun _ _ h => h.elim))
      have Fu2 := Lib.hid (rowOn Fu1.out bN)
      have Vu2 := Lib.hid (rowOn Vu1.out bN)
      obtain ⟨q2, hq⟩ : ∃ q, q = u1.heap.size := ⟨_, rfl⟩
      have Q2u2 : Hid (u2.heap[q2]? = some (.cells (vcell ⟨⟨pr, pn, ar, an, has, vce, C⟩, .slice a0 m c0⟩).toArray 40 (0, 0))) := by rw [hN, hq]; exact heap_alloc_new u1 _
      rw [← hq]
      have Q1u2 : Hid (_) := (bN.block _ (lt_of_block Q1u1.out)).trans Q1u1.out
      clear hN hq bN
      refine wpAnyH_ready (rs := [8]) (by kernel_rfl) (by simp) (AllReadyH.cons rfl (fun K hK => ?_) AllReadyH.nil)
      refine stepAppAt rfl (.tmp 66) (.tmp 68) 24 24 rfl n 3 i0 (.int .i64 0) 1 8 Try.underlying24 hi hz0 hz1 hz2 rfl (.slice fa lf fc) lf (intCells d.F) rfl Fu2.out _ 1 (intCells [x]) rfl (src_intT Q1u2.out) ?c3 ?c4 ?c5 ?_
      case c3 => have := HLF.out; have := HFB.out; unfold maxLen; omega
      case c4 => have := HLF.out; have := HFB.out; omega
      case c5 => exact Nat.le_trans H4.out.size Ou2.out.size
      intro v1 u3 hown hgrow hfr
      obtain ⟨fa2, fc2, hve⟩ := own_shape hown
      subst hve
      rw [HLF.out] at hgrow
      have hoN : Only (SS (.slice fa d.F.length fc) (.slice va d.V.length vc)) u2 u3 := ⟨hgrow.os, hgrow.tape, hgrow.output, hgrow.size, fun k hk hne => hgrow.block k hk (fun e => hne (.inl e.symm))⟩
      have Ou3 := Lib.hid (Ou2.out.trans hoN)
      have Fu3 := Lib.hid hown
      have Vu3 : Hid (u3.ownsRow n 40 7 (.slice va lv vc) lv (vcells d.V)) := row_still Vu2.out fun b hb => hgrow.block b (Vu2.out.lt b hb).2 (fun e => two_kinds (T := 3) (T2 := 40) (by decide) (row_kindT (HLF.out ▸ Fu2.out) e.symm) (row_kindT Vu2.out hb))
      have FR : Hid (∀ b, (Value.slice fa2 (lf + 1) fc2).ownBlock = some b → (Value.slice fa d.F.length fc).ownBlock = some b ∨ wc.heap.size ≤ b) := fun b hb => by
        rcases hfr b hb with h | h
        · exact .inl (by rw [← HLF.out]; exact h)
        · exact .inr (Nat.le_trans Ou2.out.size h)
      have Q2u3 : Hid (_) := (hgrow.block _ (lt_of_block Q2u2.out) (fun e => two_kinds (T := 3) (T2 := 40) (by decide) (row_kindT (HLF.out ▸ Fu2.out) e.symm) ⟨_, Q2u2.out⟩)).trans Q2u2.out
      clear hown hgrow hfr hoN
      refine hK.out _ _ (HS.out _ Ou3.out) (fun hHeld => ?_)
      clear hK K
      try simp only [Act.put]
      try simp only [List.setIfInBounds_toArray]
      rotate_left
      try simp only [Go.wp_at_succ, Go.wp_at_zero]
      go_simp
      have bN : Below u0.heap.size u0 (u0.alloc (.cells #[.int .i64 pr, .int .i64 pn, .int .i64 ar, .int .i64 an, .bool has, .int .i64 vce, .slice a0 m c0] 40)) := (Below.refl _ _).alloc (Nat.le_refl _) _
      refine hK.out _ _ (HS.out _ (Ou0.out.then (Only.of (S := fun _ => False) bN) (fun _ _ h => h.elim))) (fun hHeld => ?_)
      clear hK K
      try simp only [Act.put, List.setIfInBounds_toArray, List.set_cons_zero, List.set_cons_succ]
      obtain ⟨u1, hN⟩ : ∃ u, u = u0.alloc (.cells #[.int .i64 pr, .int .i64 pn, .int .i64 ar, .int .i64 an, .bool has, .int .i64 vce, .slice a0 m c0] 40) := ⟨_, rfl⟩
      rw [← hN] at hHeld bN ⊢
      have Ou1 := Lib.hid (Ou0.out.then (Only.of (S := fun _ => False) bN) (fun _ _ h => h.elim))
      have Fu1 := Lib.hid (rowOn Fu0.out bN)
      have Vu1 := Lib.hid (rowOn Vu0.out bN)
      obtain ⟨q2, hq⟩ : ∃ q, q = u0.heap.size := ⟨_, rfl⟩
      have Q2u1 : Hid (u1.heap[q2]? = some (.cells (vcell ⟨⟨pr, pn, ar, an, has, vce, C⟩, .slice a0 m c0⟩).toArray 40 (0, 0))) := by rw [hN, hq]; exact heap_alloc_new u0 _
      rw [← hq]
      clear hN hq bN
      refine wpAnyH_ready (rs := [7]) (by kernel_rfl) (by simp) (AllReadyH.cons rfl (fun K hK => ?_) AllReadyH.nil)
      try simp only [Go.wp_at_succ, Go.wp_at_zero]
      go_simp
      have bN : Below u1.heap.size u1 (u1.alloc (.cells #[.int .i64 x] 3)) := (Below.refl _ _).alloc (Nat.le_refl _) _
      refine hK.out _ _ (HS.out _ (Ou1.out.then (Only.of (S := fun _ => False) bN) (fun _ _ h => h.elim))) (fun hHeld => ?_)
      clear hK K
      try simp only [Act.put, List.setIfInBounds_toArray, List.set_cons_zero, List.set_cons_succ]
      obtain ⟨u2, hN⟩ : ∃ u, u = u1.alloc (.cells #[.int .i64 x] 3) := ⟨_, rfl⟩
      rw [← hN] at hHeld bN ⊢
      have Ou2 := Lib.hid (Ou1.out.then (Only.of (S := fun _ => False) bN) (fun _ _ h => h.elim))
      have Fu2 := Lib.hid (rowOn Fu1.out bN)
      have Vu2 := Lib.hid (rowOn Vu1.out bN)
      obtain ⟨q1, hq⟩ : ∃ q, q = u1.heap.size := ⟨_, rfl⟩
      have Q1u2 : Hid (u2.heap[q1]? = some (.cells #[.int .i64 x] 3 (0, 0))) := by rw [hN, hq]; exact heap_alloc_new u1 _
      rw [← hq]
      have Q2u2 : Hid (_) := (bN.block _ (lt_of_block Q2u1.out)).trans Q2u1.out
      clear hN hq bN
      refine wpAnyH_ready (rs := [8]) (by kernel_rfl) (by simp) (AllReadyH.cons rfl (fun K hK => ?_) AllReadyH.nil)
      refine stepAppAt rfl (.tmp 66) (.tmp 68) 24 24 rfl n 3 i0 (.int .i64 0) 1 8 Try.underlying24 hi hz0 hz1 hz2 rfl (.slice fa lf fc) lf (intCells d.F) rfl Fu2.out _ 1 (intCells [x]) rfl (src_intT Q1u2.out) ?c3 ?c4 ?c5 ?_
      case c3 => have := HLF.out; have := HFB.out; unfold maxLen; omega
      case c4 => have := HLF.out; have := HFB.out; omega
      case c5 => exact Nat.le_trans H4.out.size Ou2.out.size
      intro v1 u3 hown hgrow hfr
      obtain ⟨fa2, fc2, hve⟩ := own_shape hown
      subst hve
      rw [HLF.out] at hgrow
      have hoN : Only (SS (.slice fa d.F.length fc) (.slice va d.V.length vc)) u2 u3 := ⟨hgrow.os, hgrow.tape, hgrow.output, hgrow.size, fun k hk hne => hgrow.block k hk (fun e => hne (.inl e.symm))⟩
      have Ou3 := Lib.hid (Ou2.out.trans hoN)
      have Fu3 := Lib.hid hown
      have Vu3 : Hid (u3.ownsRow n 40 7 (.slice va lv vc) lv (vcells d.V)) := row_still Vu2.out fun b hb => hgrow.block b (Vu2.out.lt b hb).2 (fun e => two_kinds (T := 3) (T2 := 40) (by decide) (row_kindT (HLF.out ▸ Fu2.out) e.symm) (row_kindT Vu2.out hb))
      have FR : Hid (∀ b, (Value.slice fa2 (lf + 1) fc2).ownBlock = some b → (Value.slice fa d.F.length fc).ownBlock = some b ∨ wc.heap.size ≤ b) := fun b hb => by
        rcases hfr b hb with h | h
        · exact .inl (by rw [← HLF.out]; exact h)
        · exact .inr (Nat.le_trans Ou2.out.size h)
      have Q2u3 : Hid (_) := (hgrow.block _ (lt_of_block Q2u2.out) (fun e => two_kinds (T := 3) (T2 := 40) (by decide) (row_kindT (HLF.out ▸ Fu2.out) e.symm) ⟨_, Q2u2.out⟩)).trans Q2u2.out
      clear hown hgrow hfr hoN
      refine hK.out _ _ (HS.out _ Ou3.out) (fun hHeld => ?_)
      clear hK K
      try simp only [Act.put]
      try simp only [List.setIfInBounds_toArray]
      rotate_left
      try simp only [Go.wp_at_succ, Go.wp_at_zero]
      go_simp
      have bN : Below u0.heap.size u0 (u0.alloc (.cells #[.int .i64 x] 3)) := (Below.refl _ _).alloc (Nat.le_refl _) _
      refine hK.out _ _ (HS.out _ (Ou0.out.then (Only.of (S := fun _ => False) bN) (fun _ _ h => h.elim))) (fun hHeld => ?_)
      clear hK K
      try simp only [Act.put, List.setIfInBounds_toArray, List.set_cons_zero, List.set_cons_succ]
      obtain ⟨u1, hN⟩ : ∃ u, u = u0.alloc (.cells #[.int .i64 x] 3) := ⟨_, rfl⟩
      rw [← hN] at hHeld bN ⊢
      have Ou1 := Lib.hid (Ou0.out.then (Only.of (S := fun _ => False) bN) (fun _ _ h => h.elim))
      have Fu1 := Lib.hid (rowOn Fu0.out bN)
      have Vu1 := Lib.hid (rowOn Vu0.out bN)
      obtain ⟨q1, hq⟩ : ∃ q, q = u0.heap.size := ⟨_, rfl⟩
      have Q1u1 : Hid (u1.heap[q1]? = some (.cells #[.int .i64 x] 3 (0, 0))) := by rw [hN, hq]; exact heap_alloc_new u0 _
      rw [← hq]
      clear hN hq bN
      refine wpAnyH_ready (rs := [5, 14]) (by kernel_rfl) (by simp) (AllReadyH.cons rfl (fun K hK => ?_) (AllReadyH.cons rfl (fun K hK => ?_) AllReadyH.nil))
      have xc := (HX.out _ Ou1.out).cells
      rw [← HLF.out, ← HLV.out] at xc
      obtain ⟨_, _, _, _, _, x5, x6, _⟩ := xc
      try simp only [Go.wp_at_succ, Go.wp_at_zero]
      go_simp
      refine hK.out _ _ (HS.out _ Ou1.out) (fun hHeld => ?_)
      clear hK K x5 x6
      try simp only [Act.put, List.setIfInBounds_toArray, List.set_cons_zero, List.set_cons_succ]
      refine wpAnyH_ready (rs := [8, 14]) (by kernel_rfl) (by simp) (AllReadyH.cons rfl (fun K hK => ?_) (AllReadyH.cons rfl (fun K hK => ?_) AllReadyH.nil))
      refine stepAppAt rfl (.tmp 66) (.tmp 68) 24 24 rfl n 3 i0 (.int .i64 0) 1 8 Try.underlying24 hi hz0 hz1 hz2 rfl (.slice fa lf fc) lf (intCells d.F) rfl Fu1.out _ 1 (intCells [x]) rfl (src_intT Q1u1.out) ?c3 ?c4 ?c5 ?_
      case c3 => have := HLF.out; have := HFB.out; unfold maxLen; omega
      case c4 => have := HLF.out; have := HFB.out; omega
      case c5 => exact Nat.le_trans H4.out.size Ou1.out.size
      intro v1 u2 hown hgrow hfr
      obtain ⟨fa2, fc2, hve⟩ := own_shape hown
      subst hve
      rw [HLF.out] at hgrow
      have hoN : Only (SS (.slice fa d.F.length fc) (.slice va d.V.length vc)) u1 u2 := ⟨hgrow.os, hgrow.tape, hgrow.output, hgrow.size, fun k hk hne => hgrow.block k hk (fun e => hne (.inl e.symm))⟩
      have Ou2 := Lib.hid (Ou1.out.trans hoN)
      have Fu2 := Lib.hid hown
      have Vu2 : Hid (u2.ownsRow n 40 7 (.slice va lv vc) lv (vcells d.V)) := row_still Vu1.out fun b hb => hgrow.block b (Vu1.out.lt b hb).2 (fun e => two_kinds (T := 3) (T2 := 40) (by decide) (row_kindT (HLF.out ▸ Fu1.out) e.symm) (row_kindT Vu1.out hb))
      have FR : Hid (∀ b, (Value.slice fa2 (lf + 1) fc2).ownBlock = some b → (Value.slice fa d.F.length fc).ownBlock = some b ∨ wc.heap.size ≤ b) := fun b hb => by
        rcases hfr b hb with h | h
        · exact .inl (by rw [← HLF.out]; exact h)
        · exact .inr (Nat.le_trans Ou1.out.size h)
      clear hown hgrow hfr hoN
      refine hK.out _ _ (HS.out _ Ou2.out) (fun hHeld => ?_)
      clear hK K
      try simp only [Act.put]
      try simp only [List.setIfInBounds_toArray]
      refine wpAnyH_ready (rs := [14]) (by kernel_rfl) (by simp) (AllReadyH.cons rfl (fun K hK => ?_) AllReadyH.nil)
      try simp only [Go.wp_at_succ, Go.wp_at_zero]
      go_simp
      have bN : Below u2.heap.size u2 (u2.alloc (.cells #[.int .i64 pr, .int .i64 pn, .int .i64 ar, .int .i64 an, .bool has, .int .i64 vce, .slice a0 m c0] 40)) := (Below.refl _ _).alloc (Nat.le_refl _) _
      refine hK.out _ _ (HS.out _ (Ou2.out.then (Only.of (S := fun _ => False) bN) (fun _ _ h => h.elim))) (fun hHeld => ?_)
      clear hK K
      try simp only [Act.put, List.setIfInBounds_toArray, List.set_cons_zero, List.set_cons_succ]
      obtain ⟨u3, hN⟩ : ∃ u, u = u2.alloc (.cells #[.int .i64 pr, .int .i64 pn, .int .i64 ar, .int .i64 an, .bool has, .int .i64 vce, .slice a0 m c0] 40) := ⟨_, rfl⟩
      rw [← hN] at hHeld bN ⊢
      have Ou3 := Lib.hid (Ou2.out.then (Only.of (S := fun _ => False) bN) (fun _ _ h => h.elim))
      have Fu3 := Lib.hid (rowOn Fu2.out bN)
      have Vu3 := Lib.hid (rowOn Vu2.out bN)
      obtain ⟨q2, hq⟩ : ∃ q, q = u2.heap.size := ⟨_, rfl⟩
      have Q2u3 : Hid (u3.heap[q2]? = some (.cells (vcell ⟨⟨pr, pn, ar, an, has, vce, C⟩, .slice a0 m c0⟩).toArray 40 (0, 0))) := by rw [hN, hq]; exact heap_alloc_new u2 _
      rw [← hq]
      clear hN hq bN
      rotate_left
      try simp only [Go.wp_at_succ, Go.wp_at_zero]
      go_simp
      have bN : Below u1.heap.size u1 (u1.alloc (.cells #[.int .i64 pr, .int .i64 pn, .int .i64 ar, .int .i64 an, .bool has, .int .i64 vce, .slice a0 m c0] 40)) := (Below.refl _ _).alloc (Nat.le_refl _) _
      refine hK.out _ _ (HS.out _ (Ou1.out.then (Only.of (S := fun _ => False) bN) (fun _ _ h => h.elim))) (fun hHeld => ?_)
      clear hK K
      try simp only [Act.put, List.setIfInBounds_toArray, List.set_cons_zero, List.set_cons_succ]
      obtain ⟨u2, hN⟩ : ∃ u, u = u1.alloc (.cells #[.int .i64 pr, .int .i64 pn, .int .i64 ar, .int .i64 an, .bool has, .int .i64 vce, .slice a0 m c0] 40) := ⟨_, rfl⟩
      rw [← hN] at hHeld bN ⊢
      have Ou2 := Lib.hid (Ou1.out.then (Only.of (S := fun _ => False) bN) (fun _ _ h => h.elim))
      have Fu2 := Lib.hid (rowOn Fu1.out bN)
      have Vu2 := Lib.hid (rowOn Vu1.out bN)
      obtain ⟨q2, hq⟩ : ∃ q, q = u1.heap.size := ⟨_, rfl⟩
      have Q2u2 : Hid (u2.heap[q2]? = some (.cells (vcell ⟨⟨pr, pn, ar, an, has, vce, C⟩, .slice a0 m c0⟩).toArray 40 (0, 0))) := by rw [hN, hq]; exact heap_alloc_new u1 _
      rw [← hq]
      have Q1u2 : Hid (_) := (bN.block _ (lt_of_block Q1u1.out)).trans Q1u1.out
      clear hN hq bN
      refine wpAnyH_ready (rs := [8]) (by kernel_rfl) (by simp) (AllReadyH.cons rfl (fun K hK => ?_) AllReadyH.nil)
      refine stepAppAt rfl (.tmp 66) (.tmp 68) 24 24 rfl n 3 i0 (.int .i64 0) 1 8 Try.underlying24 hi hz0 hz1 hz2 rfl (.slice fa lf fc) lf (intCells d.F) rfl Fu2.out _ 1 (intCells [x]) rfl (src_intT Q1u2.out) ?c3 ?c4 ?c5 ?_
      case c3 => have := HLF.out; have := HFB.out; unfold maxLen; omega
      case c4 => have := HLF.out; have := HFB.out; omega
      case c5 => exact Nat.le_trans H4.out.size Ou2.out.size
      intro v1 u3 hown hgrow hfr
      obtain ⟨fa2, fc2, hve⟩ := own_shape hown
      subst hve
      rw [HLF.out] at hgrow
      have hoN : Only (SS (.slice fa d.F.length fc) (.slice va d.V.length vc)) u2 u3 := ⟨hgrow.os, hgrow.tape, hgrow.output, hgrow.size, fun k hk hne => hgrow.block k hk (fun e => hne (.inl e.symm))⟩
      have Ou3 := Lib.hid (Ou2.out.trans hoN)
      have Fu3 := Lib.hid hown
      have Vu3 : Hid (u3.ownsRow n 40 7 (.slice va lv vc) lv (vcells d.V)) := row_still Vu2.out fun b hb => hgrow.block b (Vu2.out.lt b hb).2 (fun e => two_kinds (T := 3) (T2 := 40) (by decide) (row_kindT (HLF.out ▸ Fu2.out) e.symm) (row_kindT Vu2.out hb))
      have FR : Hid (∀ b, (Value.slice fa2 (lf + 1) fc2).ownBlock = some b → (Value.slice fa d.F.length fc).ownBlock = some b ∨ wc.heap.size ≤ b) := fun b hb => by
        rcases hfr b hb with h | h
        · exact .inl (by rw [← HLF.out]; exact h)
        · exact .inr (Nat.le_trans Ou2.out.size h)
      have Q2u3 : Hid (_) := (hgrow.block _ (lt_of_block Q2u2.out) (fun e => two_kinds (T := 3) (T2 := 40) (by decide) (row_kindT (HLF.out ▸ Fu2.out) e.symm) ⟨_, Q2u2.out⟩)).trans Q2u2.out
      clear hown hgrow hfr hoN
      refine hK.out _ _ (HS.out _ Ou3.out) (fun hHeld => ?_)
      clear hK K
      try simp only [Act.put]
      try simp only [List.setIfInBounds_toArray]
      rotate_left
      try simp only [Go.wp_at_succ, Go.wp_at_zero]
      go_simp
      have bN : Below u1.heap.size u1 (u1.alloc (.cells #[.int .i64 pr, .int .i64 pn, .int .i64 ar, .int .i64 an, .bool has, .int .i64 vce, .slice a0 m c0] 40)) := (Below.refl _ _).alloc (Nat.le_refl _) _
      refine hK.out _ _ (HS.out _ (Ou1.out.then (Only.of (S := fun _ => False) bN) (fun _ _ h => h.elim))) (fun hHeld => ?_)
      clear hK K
      try simp only [Act.put, List.setIfInBounds_toArray, List.set_cons_zero, List.set_cons_succ]
      obtain ⟨u2, hN⟩ : ∃ u, u = u1.alloc (.cells #[.int .i64 pr, .int .i64 pn, .int .i64 ar, .int .i64 an, .bool has, .int .i64 vce, .slice a0 m c0] 40) := ⟨_, rfl⟩
      rw [← hN] at hHeld bN ⊢
      have Ou2 := Lib.hid (Ou1.out.then (Only.of (S := fun _ => False) bN) (fun _ _ h => h.elim))
      have Fu2 := Lib.hid (rowOn Fu1.out bN)
      have Vu2 := Lib.hid (rowOn Vu1.out bN)
      obtain ⟨q2, hq⟩ : ∃ q, q = u1.heap.size := ⟨_, rfl⟩
      have Q2u2 : Hid (u2.heap[q2]? = some (.cells (vcell ⟨⟨pr, pn, ar, an, has, vce, C⟩, .slice a0 m c0⟩).toArray 40 (0, 0))) := by rw [hN, hq]; exact heap_alloc_new u1 _
      rw [← hq]
      have Q1u2 : Hid (_) := (bN.block _ (lt_of_block Q1u1.out)).trans Q1u1.out
      clear hN hq bN
      refine wpAnyH_ready (rs := [5]) (by kernel_rfl) (by simp) (AllReadyH.cons rfl (fun K hK => ?_) AllReadyH.nil)
      have xc := (HX.out _ Ou2.out).cells
      rw [← HLF.out, ← HLV.out] at xc
      obtain ⟨_, _, _, _, _, x5, x6, _⟩ := xc
      try simp only [Go.wp_at_succ, Go.wp_at_zero]
      go_simp
      refine hK.out _ _ (HS.out _ Ou2.out) (fun hHeld => ?_)
      clear hK K x5 x6
      try simp only [Act.put, List.setIfInBounds_toArray, List.set_cons_zero, List.set_cons_succ]
      refine wpAnyH_ready (rs := [8]) (by kernel_rfl) (by simp) (AllReadyH.cons rfl (fun K hK => ?_) AllReadyH.nil)
      refine stepAppAt rfl (.tmp 66) (.tmp 68) 24 24 rfl n 3 i0 (.int .i64 0) 1 8 Try.underlying24 hi hz0 hz1 hz2 rfl (.slice fa lf fc) lf (intCells d.F) rfl Fu2.out _ 1 (intCells [x]) rfl (src_intT Q1u2.out) ?c3 ?c4 ?c5 ?_
      case c3 => have := HLF.out; have := HFB.out; unfold maxLen; omega
      case c4 => have := HLF.out; have := HFB.out; omega
      case c5 => exact Nat.le_trans H4.out.size Ou2.out.size
      intro v1 u3 hown hgrow hfr
      obtain ⟨fa2, fc2, hve⟩ := own_shape hown
      subst hve
      rw [HLF.out] at hgrow
      have hoN : Only (SS (.slice fa d.F.length fc) (.slice va d.V.length vc)) u2 u3 := ⟨hgrow.os, hgrow.tape, hgrow.output, hgrow.size, fun k hk hne => hgrow.block k hk (fun e => hne (.inl e.symm))⟩
      have Ou3 := Lib.hid (Ou2.out.trans hoN)
      have Fu3 := Lib.hid hown
      have Vu3 : Hid (u3.ownsRow n 40 7 (.slice va lv vc) lv (vcells d.V)) := row_still Vu2.out fun b hb => hgrow.block b (Vu2.out.lt b hb).2 (fun e => two_kinds (T := 3) (T2 := 40) (by decide) (row_kindT (HLF.out ▸ Fu2.out) e.symm) (row_kindT Vu2.out hb))
      have FR : Hid (∀ b, (Value.slice fa2 (lf + 1) fc2).ownBlock = some b → (Value.slice fa d.F.length fc).ownBlock = some b ∨ wc.heap.size ≤ b) := fun b hb => by
        rcases hfr b hb with h | h
        · exact .inl (by rw [← HLF.out]; exact h)
        · exact .inr (Nat.le_trans Ou2.out.size h)
      have Q2u3 : Hid (_) := (hgrow.block _ (lt_of_block Q2u2.out) (fun e => two_kinds (T := 3) (T2 := 40) (by decide) (row_kindT (HLF.out ▸ Fu2.out) e.symm) ⟨_, Q2u2.out⟩)).trans Q2u2.out
      clear hown hgrow hfr hoN
      refine hK.out _ _ (HS.out _ Ou3.out) (fun hHeld => ?_)
      clear hK K
      try simp only [Act.put]
      try simp only [List.setIfInBounds_toArray]
      rotate_left
      try simp only [Go.wp_at_succ, Go.wp_at_zero]
      go_simp
      have bN : Below u0.heap.size u0 (u0.alloc (.cells #[.int .i64 pr, .int .i64 pn, .int .i64 ar, .int .i64 an, .bool has, .int .i64 vce, .slice a0 m c0] 40)) := (Below.refl _ _).alloc (Nat.le_refl _) _
      refine hK.out _ _ (HS.out _ (Ou0.out.then (Only.of (S := fun _ => False) bN) (fun _ _ h => h.elim))) (fun hHeld => ?_)
      clear hK K
      try simp only [Act.put, List.setIfInBounds_toArray, List.set_cons_zero, List.set_cons_succ]
      obtain ⟨u1, hN⟩ : ∃ u, u = u0.alloc (.cells #[.int .i64 pr, .int .i64 pn, .int .i64 ar, .int .i64 an, .bool has, .int .i64 vce, .slice a0 m c0] 40) := ⟨_, rfl⟩
      rw [← hN] at hHeld bN ⊢
      have Ou1 := Lib.hid (Ou0.out.then (Only.of (S := fun _ => False) bN) (fun _ _ h => h.elim))
      have Fu1 := Lib.hid (rowOn Fu0.out bN)
      have Vu1 := Lib.hid (rowOn Vu0.out bN)
      obtain ⟨q2, hq⟩ : ∃ q, q = u0.heap.size := ⟨_, rfl⟩
      have Q2u1 : Hid (u1.heap[q2]? = some (.cells (vcell ⟨⟨pr, pn, ar, an, has, vce, C⟩, .slice a0 m c0⟩).toArray 40 (0, 0))) := by rw [hN, hq]; exact heap_alloc_new u0 _
      rw [← hq]
      clear hN hq bN
      refine wpAnyH_ready (rs := [5, 7]) (by kernel_rfl) (by simp) (AllReadyH.cons rfl (fun K hK => ?_) (AllReadyH.cons rfl (fun K hK => ?_) AllReadyH.nil))
      have xc := (HX.out _ Ou1.out).cells
      rw [← HLF.out, ← HLV.out] at xc
      obtain ⟨_, _, _, _, _, x5, x6, _⟩ := xc
      try simp only [Go.wp_at_succ, Go.wp_at_zero]
      go_simp
      refine hK.out _ _ (HS.out _ Ou1.out) (fun hHeld => ?_)
      clear hK K x5 x6
      try simp only [Act.put, List.setIfInBounds_toArray, List.set_cons_zero, List.set_cons_succ]
      refine wpAnyH_ready (rs := [7]) (by kernel_rfl) (by simp) (AllReadyH.cons rfl (fun K hK => ?_) AllReadyH.nil)
      try simp only [Go.wp_at_succ, Go.wp_at_zero]
      go_simp
      have bN : Below u1.heap.size u1 (u1.alloc (.cells #[.int .i64 x] 3)) := (Below.refl _ _).alloc (Nat.le_refl _) _
      refine hK.out _ _ (HS.out _ (Ou1.out.then (Only.of (S := fun _ => False) bN) (fun _ _ h => h.elim))) (fun hHeld => ?_)
      clear hK K
      try simp only [Act.put, List.setIfInBounds_toArray, List.set_cons_zero, List.set_cons_succ]
      obtain ⟨u2, hN⟩ : ∃ u, u = u1.alloc (.cells #[.int .i64 x] 3) := ⟨_, rfl⟩
      rw [← hN] at hHeld bN ⊢
      have Ou2 := Lib.hid (Ou1.out.then (Only.of (S := fun _ => False) bN) (fun _ _ h => h.elim))
      have Fu2 := Lib.hid (rowOn Fu1.out bN)
      have Vu2 := Lib.hid (rowOn Vu1.out bN)
      obtain ⟨q1, hq⟩ : ∃ q, q = u1.heap.size := ⟨_, rfl⟩
      have Q1u2 : Hid (u2.heap[q1]? = some (.cells #[.int .i64 x] 3 (0, 0))) := by rw [hN, hq]; exact heap_alloc_new u1 _
      rw [← hq]
      have Q2u2 : Hid (_) := (bN.block _ (lt_of_block Q2u1.out)).trans Q2u1.out
      clear hN hq bN
      refine wpAnyH_ready (rs := [8]) (by kernel_rfl) (by simp) (AllReadyH.cons rfl (fun K hK => ?_) AllReadyH.nil)
      refine stepAppAt rfl (.tmp 66) (.tmp 68) 24 24 rfl n 3 i0 (.int .i64 0) 1 8 Try.underlying24 hi hz0 hz1 hz2 rfl (.slice fa lf fc) lf (intCells d.F) rfl Fu2.out _ 1 (intCells [x]) rfl (src_intT Q1u2.out) ?c3 ?c4 ?c5 ?_
      case c3 => have := HLF.out; have := HFB.out; unfold maxLen; omega
      case c4 => have := HLF.out; have := HFB.out; omega
      case c5 => exact Nat.le_trans H4.out.size Ou2.out.size
      intro v1 u3 hown hgrow hfr
      obtain ⟨fa2, fc2, hve⟩ := own_shape hown
      subst hve
      rw [HLF.out] at hgrow
      have hoN : Only (SS (.slice fa d.F.length fc) (.slice va d.V.length vc)) u2 u3 := ⟨hgrow.os, hgrow.tape, hgrow.output, hgrow.size, fun k hk hne => hgrow.block k hk (fun e => hne (.inl e.symm))⟩
      have Ou3 := Lib.hid (Ou2.out.trans hoN)
      have Fu3 := Lib.hid hown
      have Vu3 : Hid (u3.ownsRow n 40 7 (.slice va lv vc) lv (vcells d.V)) := row_still Vu2.out fun b hb => hgrow.block b (Vu2.out.lt b hb).2 (fun e => two_kinds (T := 3) (T2 := 40) (by decide) (row_kindT (HLF.out ▸ Fu2.out) e.symm) (row_kindT Vu2.out hb))
      have FR : Hid (∀ b, (Value.slice fa2 (lf + 1) fc2).ownBlock = some b → (Value.slice fa d.F.length fc).ownBlock = some b ∨ wc.heap.size ≤ b) := fun b hb => by
        rcases hfr b hb with h | h
        · exact .inl (by rw [← HLF.out]; exact h)
        · exact .inr (Nat.le_trans Ou2.out.size h)
      have Q2u3 : Hid (_) := (hgrow.block _ (lt_of_block Q2u2.out) (fun e => two_kinds (T := 3) (T2 := 40) (by decide) (row_kindT (HLF.out ▸ Fu2.out) e.symm) ⟨_, Q2u2.out⟩)).trans Q2u2.out
      clear hown hgrow hfr hoN
      refine hK.out _ _ (HS.out _ Ou3.out) (fun hHeld => ?_)
      clear hK K
      try simp only [Act.put]
      try simp only [List.setIfInBounds_toArray]
      rotate_left
      try simp only [Go.wp_at_succ, Go.wp_at_zero]
      go_simp
      have bN : Below u1.heap.size u1 (u1.alloc (.cells #[.int .i64 x] 3)) := (Below.refl _ _).alloc (Nat.le_refl _) _
      refine hK.out _ _ (HS.out _ (Ou1.out.then (Only.of (S := fun _ => False) bN) (fun _ _ h => h.elim))) (fun hHeld => ?_)
      clear hK K
      try simp only [Act.put, List.setIfInBounds_toArray, List.set_cons_zero, List.set_cons_succ]
      obtain ⟨u2, hN⟩ : ∃ u, u = u1.alloc (.cells #[.int .i64 x] 3) := ⟨_, rfl⟩
      rw [← hN] at hHeld bN ⊢
      have Ou2 := Lib.hid (Ou1.out.then (Only.of (S := fun _ => False) bN) (fun _ _ h => h.elim))
      have Fu2 := Lib.hid (rowOn Fu1.out bN)
      have Vu2 := Lib.hid (rowOn Vu1.out bN)
      obtain ⟨q1, hq⟩ : ∃ q, q = u1.heap.size := ⟨_, rfl⟩
      have Q1u2 : Hid (u2.heap[q1]? = some (.cells #[.int .i64 x] 3 (0, 0))) := by rw [hN, hq]; exact heap_alloc_new u1 _
      rw [← hq]
      have Q2u2 : Hid (_) := (bN.block _ (lt_of_block Q2u1.out)).trans Q2u1.out
      clear hN hq bN
      refine wpAnyH_ready (rs := [5]) (by kernel_rfl) (by simp) (AllReadyH.cons rfl (fun K hK => ?_) AllReadyH.nil)
      have xc := (HX.out _ Ou2.out).cells
      rw [← HLF.out, ← HLV.out] at xc
      obtain ⟨_, _, _, _, _, x5, x6, _⟩ := xc
      try simp only [Go.wp_at_succ, Go.wp_at_zero]
      go_simp
      refine hK.out _ _ (HS.out _ Ou2.out) (fun hHeld => ?_)
      clear hK K x5 x6
      try simp only [Act.put, List.setIfInBounds_toArray, List.set_cons_zero, List.set_cons_succ]
      refine wpAnyH_ready (rs := [8]) (by kernel_rfl) (by simp) (AllReadyH.cons rfl (fun K hK => ?_) AllReadyH.nil)
      refine stepAppAt rfl (.tmp 66) (.tmp 68) 24 24 rfl n 3 i0 (.int .i64 0) 1 8 Try.underlying24 hi hz0 hz1 hz2 rfl (.slice fa lf fc) lf (intCells d.F) rfl Fu2.out _ 1 (intCells [x]) rfl (src_intT Q1u2.out) ?c3 ?c4 ?c5 ?_
      case c3 => have := HLF.out; have := HFB.out; unfold maxLen; omega
      case c4 => have := HLF.out; have := HFB.out; omega
      case c5 => exact Nat.le_trans H4.out.size Ou2.out.size
      intro v1 u3 hown hgrow hfr
      obtain ⟨fa2, fc2, hve⟩ := own_shape hown
      subst hve
      rw [HLF.out] at hgrow
      have hoN : Only (SS (.slice fa d.F.length fc) (.slice va d.V.length vc)) u2 u3 := ⟨hgrow.os, hgrow.tape, hgrow.output, hgrow.size, fun k hk hne => hgrow.block k hk (fun e => hne (.inl e.symm))⟩
      have Ou3 := Lib.hid (Ou2.out.trans hoN)
      have Fu3 := Lib.hid hown
      have Vu3 : Hid (u3.ownsRow n 40 7 (.slice va lv vc) lv (vcells d.V)) := row_still Vu2.out fun b hb => hgrow.block b (Vu2.out.lt b hb).2 (fun e => two_kinds (T := 3) (T2 := 40) (by decide) (row_kindT (HLF.out ▸ Fu2.out) e.symm) (row_kindT Vu2.out hb))
      have FR : Hid (∀ b, (Value.slice fa2 (lf + 1) fc2).ownBlock = some b → (Value.slice fa d.F.length fc).ownBlock = some b ∨ wc.heap.size ≤ b) := fun b hb => by
        rcases hfr b hb with h | h
        · exact .inl (by rw [← HLF.out]; exact h)
        · exact .inr (Nat.le_trans Ou2.out.size h)
      have Q2u3 : Hid (_) := (hgrow.block _ (lt_of_block Q2u2.out) (fun e => two_kinds (T := 3) (T2 := 40) (by decide) (row_kindT (HLF.out ▸ Fu2.out) e.symm) ⟨_, Q2u2.out⟩)).trans Q2u2.out
      clear hown hgrow hfr hoN
      refine hK.out _ _ (HS.out _ Ou3.out) (fun hHeld => ?_)
      clear hK K
      try simp only [Act.put]
      try simp only [List.setIfInBounds_toArray]
      rotate_left
      try simp only [Go.wp_at_succ, Go.wp_at_zero]
      go_simp
      have bN : Below u0.heap.size u0 (u0.alloc (.cells #[.int .i64 pr, .int .i64 pn, .int .i64 ar, .int .i64 an, .bool has, .int .i64 vce, .slice a0 m c0] 40)) := (Below.refl _ _).alloc (Nat.le_refl _) _
      refine hK.out _ _ (HS.out _ (Ou0.out.then (Only.of (S := fun _ => False) bN) (fun _ _ h => h.elim))) (fun hHeld => ?_)
      clear hK K
      try simp only [Act.put, List.setIfInBounds_toArray, List.set_cons_zero, List.set_cons_succ]
      obtain ⟨u1, hN⟩ : ∃ u, u = u0.alloc (.cells #[.int .i64 pr, .int .i64 pn, .int .i64 ar, .int .i64 an, .bool has, .int .i64 vce, .slice a0 m c0] 40) := ⟨_, rfl⟩
      rw [← hN] at hHeld bN ⊢
      have Ou1 := Lib.hid (Ou0.out.then (Only.of (S := fun _ => False) bN) (fun _ _ h => h.elim))
      have Fu1 := Lib.hid (rowOn Fu0.out bN)
      have Vu1 := Lib.hid (rowOn Vu0.out bN)
      obtain ⟨q2, hq⟩ : ∃ q, q = u0.heap.size := ⟨_, rfl⟩
      have Q2u1 : Hid (u1.heap[q2]? = some (.cells (vcell ⟨⟨pr, pn, ar, an, has, vce, C⟩, .slice a0 m c0⟩).toArray 40 (0, 0))) := by rw [hN, hq]; exact heap_alloc_new u0 _
      rw [← hq]
      clear hN hq bN
      refine wpAnyH_ready (rs := [5, 7, 12]) (by kernel_rfl) (by simp) (AllReadyH.cons rfl (fun K hK => ?_) (AllReadyH.cons rfl (fun K hK => ?_) (AllReadyH.cons rfl (fun K hK => ?_) AllReadyH.nil)))
      have xc := (HX.out _ Ou1.out).cells
      rw [← HLF.out, ← HLV.out] at xc
      obtain ⟨_, _, _, _, _, x5, x6, _⟩ := xc
      try simp only [Go.wp_at_succ, Go.wp_at_zero]
      go_simp
      refine hK.out _ _ (HS.out _ Ou1.out) (fun hHeld => ?_)
      clear hK K x5 x6
      try simp only [Act.put, List.setIfInBounds_toArray, List.set_cons_zero, List.set_cons_succ]
      refine wpAnyH_ready (rs := [7, 12]) (by kernel_rfl) (by simp) (AllReadyH.cons rfl (fun K hK => ?_) (AllReadyH.cons rfl (fun K hK => ?_) AllReadyH.nil))
      try simp only [Go.wp_at_succ, Go.wp_at_zero]
      go_simp
      have bN : Below u1.heap.size u1 (u1.alloc (.cells #[.int .i64 x] 3)) := (Below.refl _ _).alloc (Nat.le_refl _) _
      refine hK.out _ _ (HS.out _ (Ou1.out.then (Only.of (S := fun _ => False) bN) (fun _ _ h => h.elim))) (fun hHeld => ?_)
      clear hK K
      try simp only [Act.put, List.setIfInBounds_toArray, List.set_cons_zero, List.set_cons_succ]
      obtain ⟨u2, hN⟩ : ∃ u, u = u1.alloc (.cells #[.int .i64 x] 3) := ⟨_, rfl⟩
      rw [← hN] at hHeld bN ⊢
      have Ou2 := Lib.hid (Ou1.out.then (Only.of (S := fun _ => False) bN) (fun _ _ h => h.elim))
      have Fu2 := Lib.hid (rowOn Fu1.out bN)
      have Vu2 := Lib.hid (rowOn Vu1.out bN)
      obtain ⟨q1, hq⟩ : ∃ q, q = u1.heap.size := ⟨_, rfl⟩
      have Q1u2 : Hid (u2.heap[q1]? = some (.cells #[.int .i64 x] 3 (0, 0))) := by rw [hN, hq]; exact heap_alloc_new u1 _
      rw [← hq]
      have Q2u2 : Hid (_) := (bN.block _ (lt_of_block Q2u1.out)).trans Q2u1.out
      clear hN hq bN
      refine wpAnyH_ready (rs := [8, 12]) (by kernel_rfl) (by simp) (AllReadyH.cons rfl (fun K hK => ?_) (AllReadyH.cons rfl (fun K hK => ?_) AllReadyH.nil))
      refine stepAppAt rfl (.tmp 66) (.tmp 68) 24 24 rfl n 3 i0 (.int .i64 0) 1 8 Try.underlying24 hi hz0 hz1 hz2 rfl (.slice fa lf fc) lf (intCells d.F) rfl Fu2.out _ 1 (intCells [x]) rfl (src_intT Q1u2.out) ?c3 ?c4 ?c5 ?_
      case c3 => have := HLF.out; have := HFB.out; unfold maxLen; omega
      case c4 => have := HLF.out; have := HFB.out; omega
      case c5 => exact Nat.le_trans H4.out.size Ou2.out.size
      intro v1 u3 hown hgrow hfr
      obtain ⟨fa2, fc2, hve⟩ := own_shape hown
      subst hve
      rw [HLF.out] at hgrow
      have hoN : Only (SS (.slice fa d.F.length fc) (.slice va d.V.length vc)) u2 u3 := ⟨hgrow.os, hgrow.tape, hgrow.output, hgrow.size, fun k hk hne => hgrow.block k hk (fun e => hne (.inl e.symm))⟩
      have Ou3 := Lib.hid (Ou2.out.trans hoN)
      have Fu3 := Lib.hid hown
      have Vu3 : Hid (u3.ownsRow n 40 7 (.slice va lv vc) lv (vcells d.V)) := row_still Vu2.out fun b hb => hgrow.block b (Vu2.out.lt b hb).2 (fun e => two_kinds (T := 3) (T2 := 40) (by decide) (row_kindT (HLF.out ▸ Fu2.out) e.symm) (row_kindT Vu2.out hb))
      have FR : Hid (∀ b, (Value.slice fa2 (lf + 1) fc2).ownBlock = some b → (Value.slice fa d.F.length fc).ownBlock = some b ∨ wc.heap.size ≤ b) := fun b hb => by
        rcases hfr b hb with h | h
        · exact .inl (by rw [← HLF.out]; exact h)
        · exact .inr (Nat.le_trans Ou2.out.size h)
      have Q2u3 : Hid (_) := (hgrow.block _ (lt_of_block Q2u2.out) (fun e => two_kinds (T := 3) (T2 := 40) (by decide) (row_kindT (HLF.out ▸ Fu2.out) e.symm) ⟨_, Q2u2.out⟩)).trans Q2u2.out
      clear hown hgrow hfr hoN
      refine hK.out _ _ (HS.out _ Ou3.out) (fun hHeld => ?_)
      clear hK K
      try simp only [Act.put]
      try simp only [List.setIfInBounds_toArray]
      refine wpAnyH_ready (rs := [12]) (by kernel_rfl) (by simp) (AllReadyH.cons rfl (fun K hK => ?_) AllReadyH.nil)
      have xc := (HX.out _ Ou3.out).cells
      rw [← HLF.out, ← HLV.out] at xc
      obtain ⟨_, _, _, _, _, x5, x6, _⟩ := xc
      try simp only [Go.wp_at_succ, Go.wp_at_zero]
      go_simp
      refine hK.out _ _ (HS.out _ Ou3.out) (fun hHeld => ?_)
      clear hK K x5 x6
      try simp only [Act.put, List.setIfInBounds_toArray, List.set_cons_zero, List.set_cons_succ]
      rotate_left
      have xc := (HX.out _ Ou2.out).cells
      rw [← HLF.out, ← HLV.out] at xc
      obtain ⟨_, _, _, _, _, x5, x6, _⟩ := xc
      try simp only [Go.wp_at_succ, Go.wp_at_zero]
      go_simp
      refine hK.out _ _ (HS.out _ Ou2.out) (fun hHeld => ?_)
      clear hK K x5 x6
      try simp only [Act.put, List.setIfInBounds_toArray, List.set_cons_zero, List.set_cons_succ]
      refine wpAnyH_ready (rs := [8]) (by kernel_rfl) (by simp) (AllReadyH.cons rfl (fun K hK => ?_) AllReadyH.nil)
      refine stepAppAt rfl (.tmp 66) (.tmp 68) 24 24 rfl n 3 i0 (.int .i64 0) 1 8 Try.underlying24 hi hz0 hz1 hz2 rfl (.slice fa lf fc) lf (intCells d.F) rfl Fu2.out _ 1 (intCells [x]) rfl (src_intT Q1u2.out) ?c3 ?c4 ?c5 ?_
      case c3 => have := HLF.out; have := HFB.out; unfold maxLen; omega
      case c4 => have := HLF.out; have := HFB.out; omega
      case c5 => exact Nat.le_trans H4.out.size Ou2.out.size
      intro v1 u3 hown hgrow hfr
      obtain ⟨fa2, fc2, hve⟩ := own_shape hown
      subst hve
      rw [HLF.out] at hgrow
      have hoN : Only (SS (.slice fa d.F.length fc) (.slice va d.V.length vc)) u2 u3 := ⟨hgrow.os, hgrow.tape, hgrow.output, hgrow.size, fun k hk hne => hgrow.block k hk (fun e => hne (.inl e.symm))⟩
      have Ou3 := Lib.hid (Ou2.out.trans hoN)
      have Fu3 := Lib.hid hown
      have Vu3 : Hid (u3.ownsRow n 40 7 (.slice va lv vc) lv (vcells d.V)) := row_still Vu2.out fun b hb => hgrow.block b (Vu2.out.lt b hb).2 (fun e => two_kinds (T := 3) (T2 := 40) (by decide) (row_kindT (HLF.out ▸ Fu2.out) e.symm) (row_kindT Vu2.out hb))
      have FR : Hid (∀ b, (Value.slice fa2 (lf + 1) fc2).ownBlock = some b → (Value.slice fa d.F.length fc).ownBlock = some b ∨ wc.heap.size ≤ b) := fun b hb => by
        rcases hfr b hb with h | h
        · exact .inl (by rw [← HLF.out]; exact h)
        · exact .inr (Nat.le_trans Ou2.out.size h)
      have Q2u3 : Hid (_) := (hgrow.block _ (lt_of_block Q2u2.out) (fun e => two_kinds (T := 3) (T2 := 40) (by decide) (row_kindT (HLF.out ▸ Fu2.out) e.symm) ⟨_, Q2u2.out⟩)).trans Q2u2.out
      clear hown hgrow hfr hoN
      refine hK.out _ _ (HS.out _ Ou3.out) (fun hHeld => ?_)
      clear hK K
      try simp only [Act.put]
      try simp only [List.setIfInBounds_toArray]
      rotate_left
      have xc := (HX.out _ Ou1.out).cells
      rw [← HLF.out, ← HLV.out] at xc
      obtain ⟨_, _, _, _, _, x5, x6, _⟩ := xc
      try simp only [Go.wp_at_succ, Go.wp_at_zero]
      go_simp
      refine hK.out _ _ (HS.out _ Ou1.out) (fun hHeld => ?_)
      clear hK K x5 x6
      try simp only [Act.put, List.setIfInBounds_toArray, List.set_cons_zero, List.set_cons_succ]
      refine wpAnyH_ready (rs := [7]) (by kernel_rfl) (by simp) (AllReadyH.cons rfl (fun K hK => ?_) AllReadyH.nil)
      try simp only [Go.wp_at_succ, Go.wp_at_zero]
      go_simp
      have bN : Below u1.heap.size u1 (u1.alloc (.cells #[.int .i64 x] 3)) := (Below.refl _ _).alloc (Nat.le_refl _) _
      refine hK.out _ _ (HS.out _ (Ou1.out.then (Only.of (S := fun _ => False) bN) (fun _ _ h => h.elim))) (fun hHeld => ?_)
      clear hK K
      try simp only [Act.put, List.setIfInBounds_toArray, List.set_cons_zero, List.set_cons_succ]
      obtain ⟨u2, hN⟩ : ∃ u, u = u1.alloc (.cells #[.int .i64 x] 3) := ⟨_, rfl⟩
      rw [← hN] at hHeld bN ⊢
      have Ou2 := Lib.hid (Ou1.out.then (Only.of (S := fun _ => False) bN) (fun _ _ h => h.elim))
      have Fu2 := Lib.hid (rowOn Fu1.out bN)
      have Vu2 := Lib.hid (rowOn Vu1.out bN)
      obtain ⟨q1, hq⟩ : ∃ q, q = u1.heap.size := ⟨_, rfl⟩
      have Q1u2 : Hid (u2.heap[q1]? = some (.cells #[.int .i64 x] 3 (0, 0))) := by rw [hN, hq]; exact heap_alloc_new u1 _
      rw [← hq]
      have Q2u2 : Hid (_) := (bN.block _ (lt_of_block Q2u1.out)).trans Q2u1.out
      clear hN hq bN
      refine wpAnyH_ready (rs := [8]) (by kernel_rfl) (by simp) (AllReadyH.cons rfl (fun K hK => ?_) AllReadyH.nil)
      refine stepAppAt rfl (.tmp 66) (.tmp 68) 24 24 rfl n 3 i0 (.int .i64 0) 1 8 Try.underlying24 hi hz0 hz1 hz2 rfl (.slice fa lf fc) lf (intCells d.F) rfl Fu2.out _ 1 (intCells [x]) rfl (src_intT Q1u2.out) ?c3 ?c4 ?c5 ?_
      case c3 => have := HLF.out; have := HFB.out; unfold maxLen; omega
      case c4 => have := HLF.out; have := HFB.out; omega
      case c5 => exact Nat.le_trans H4.out.size Ou2.out.size
      intro v1 u3 hown hgrow hfr
      obtain ⟨fa2, fc2, hve⟩ := own_shape hown
      subst hve
      rw [HLF.out] at hgrow
      have hoN : Only (SS (.slice fa d.F.length fc) (.slice va d.V.length vc)) u2 u3 := ⟨hgrow.os, hgrow.tape, hgrow.output, hgrow.size, fun k hk hne => hgrow.block k hk (fun e => hne (.inl e.symm))⟩
      have Ou3 := Lib.hid (Ou2.out.trans hoN)
      have Fu3 := Lib.hid hown
      have Vu3 : Hid (u3.ownsRow n 40 7 (.slice va lv vc) lv (vcells d.V)) := row_still Vu2.out fun b hb => hgrow.block b (Vu2.out.lt b hb).2 (fun e => two_kinds (T := 3) (T2 := 40) (by decide) (row_kindT (HLF.out ▸ Fu2.out) e.symm) (row_kindT Vu2.out hb))
      have FR : Hid (∀ b, (Value.slice fa2 (lf + 1) fc2).ownBlock = some b → (Value.slice fa d.F.length fc).ownBlock = some b ∨ wc.heap.size ≤ b) := fun b hb => by
        rcases hfr b hb with h | h
        · exact .inl (by rw [← HLF.out]; exact h)
        · exact .inr (Nat.le_trans Ou2.out.size h)
      have Q2u3 : Hid (_) := (hgrow.block _ (lt_of_block Q2u2.out) (fun e => two_kinds (T := 3) (T2 := 40) (by decide) (row_kindT (HLF.out ▸ Fu2.out) e.symm) ⟨_, Q2u2.out⟩)).trans Q2u2.out
      clear hown hgrow hfr hoN
      refine hK.out _ _ (HS.out _ Ou3.out) (fun hHeld => ?_)
      clear hK K
      try simp only [Act.put]
      try simp only [List.setIfInBounds_toArray]
      rotate_left
      try simp only [Go.wp_at_succ, Go.wp_at_zero]
      go_simp
      have bN : Below u1.heap.size u1 (u1.alloc (.cells #[.int .i64 x] 3)) := (Below.refl _ _).alloc (Nat.le_refl _) _
      refine hK.out _ _ (HS.out _ (Ou1.out.then (Only.of (S := fun _ => False) bN) (fun _ _ h => h.elim))) (fun hHeld => ?_)
      clear hK K
      try simp only [Act.put, List.setIfInBounds_toArray, List.set_cons_zero, List.set_cons_succ]
      obtain ⟨u2, hN⟩ : ∃ u, u = u1.alloc (.cells #[.int .i64 x] 3) := ⟨_, rfl⟩
      rw [← hN] at hHeld bN ⊢
      have Ou2 := Lib.hid (Ou1.out.then (Only.of (S := fun _ => False) bN) (fun _ _ h => h.elim))
      have Fu2 := Lib.hid (rowOn Fu1.out bN)
      have Vu2 := Lib.hid (rowOn Vu1.out bN)
      obtain ⟨q1, hq⟩ : ∃ q, q = u1.heap.size := ⟨_, rfl⟩
      have Q1u2 : Hid (u2.heap[q1]? = some (.cells #[.int .i64 x] 3 (0, 0))) := by rw [hN, hq]; exact heap_alloc_new u1 _
      rw [← hq]
      have Q2u2 : Hid (_) := (bN.block _ (lt_of_block Q2u1.out)).trans Q2u1.out
      clear hN hq bN
      refine wpAnyH_ready (rs := [5, 12]) (by kernel_rfl) (by simp) (AllReadyH.cons rfl (fun K hK => ?_) (AllReadyH.cons rfl (fun K hK => ?_) AllReadyH.nil))
      have xc := (HX.out _ Ou2.out).cells
      rw [← HLF.out, ← HLV.out] at xc
      obtain ⟨_, _, _, _, _, x5, x6, _⟩ := xc
      try simp only [Go.wp_at_succ, Go.wp_at_zero]
      go_simp
      refine hK.out _ _ (HS.out _ Ou2.out) (fun hHeld => ?_)
      clear hK K x5 x6
      try simp only [Act.put, List.setIfInBounds_toArray, List.set_cons_zero, List.set_cons_succ]
      refine wpAnyH_ready (rs := [8, 12]) (by kernel_rfl) (by simp) (AllReadyH.cons rfl (fun K hK => ?_) (AllReadyH.cons rfl (fun K hK => ?_) AllReadyH.nil))
      refine stepAppAt rfl (.tmp 66) (.tmp 68) 24 24 rfl n 3 i0 (.int .i64 0) 1 8 Try.underlying24 hi hz0 hz1 hz2 rfl (.slice fa lf fc) lf (intCells d.F) rfl Fu2.out _ 1 (intCells [x]) rfl (src_intT Q1u2.out) ?c3 ?c4 ?c5 ?_
      case c3 => have := HLF.out; have := HFB.out; unfold maxLen; omega
      case c4 => have := HLF.out; have := HFB.out; omega
      case c5 => exact Nat.le_trans H4.out.size Ou2.out.size
      intro v1 u3 hown hgrow hfr
      obtain ⟨fa2, fc2, hve⟩ := own_shape hown
      subst hve
      rw [HLF.out] at hgrow
      have hoN : Only (SS (.slice fa d.F.length fc) (.slice va d.V.length vc)) u2 u3 := ⟨hgrow.os, hgrow.tape, hgrow.output, hgrow.size, fun k hk hne => hgrow.block k hk (fun e => hne (.inl e.symm))⟩
      have Ou3 := Lib.hid (Ou2.out.trans hoN)
      have Fu3 := Lib.hid hown
      have Vu3 : Hid (u3.ownsRow n 40 7 (.slice va lv vc) lv (vcells d.V)) := row_still Vu2.out fun b hb => hgrow.block b (Vu2.out.lt b hb).2 (fun e => two_kinds (T := 3) (T2 := 40) (by decide) (row_kindT (HLF.out ▸ Fu2.out) e.symm) (row_kindT Vu2.out hb))
      have FR : Hid (∀ b, (Value.slice fa2 (lf + 1) fc2).ownBlock = some b → (Value.slice fa d.F.length fc).ownBlock = some b ∨ wc.heap.size ≤ b) := fun b hb => by
        rcases hfr b hb with h | h
        · exact .inl (by rw [← HLF.out]; exact h)
        · exact .inr (Nat.le_trans Ou2.out.size h)
      have Q2u3 : Hid (_) := (hgrow.block _ (lt_of_block Q2u2.out) (fun e => two_kinds (T := 3) (T2 := 40) (by decide) (row_kindT (HLF.out ▸ Fu2.out) e.symm) ⟨_, Q2u2.out⟩)).trans Q2u2.out
      clear hown hgrow hfr hoN
      refine hK.out _ _ (HS.out _ Ou3.out) (fun hHeld => ?_)
      clear hK K
      try simp only [Act.put]
      try simp only [List.setIfInBounds_toArray]
      refine wpAnyH_ready (rs := [12]) (by kernel_rfl) (by simp) (AllReadyH.cons rfl (fun K hK => ?_) AllReadyH.nil)
      have xc := (HX.out _ Ou3.out).cells
      rw [← HLF.out, ← HLV.out] at xc
      obtain ⟨_, _, _, _, _, x5, x6, _⟩ := xc
      try simp only [Go.wp_at_succ, Go.wp_at_zero]
      go_simp
      refine hK.out _ _ (HS.out _ Ou3.out) (fun hHeld => ?_)
      clear hK K x5 x6
      try simp only [Act.put, List.setIfInBounds_toArray, List.set_cons_zero, List.set_cons_succ]
      rotate_left
      have xc := (HX.out _ Ou2.out).cells
      rw [← HLF.out, ← HLV.out] at xc
      obtain ⟨_, _, _, _, _, x5, x6, _⟩ := xc
      try simp only [Go.wp_at_succ, Go.wp_at_zero]
      go_simp
      refine hK.out _ _ (HS.out _ Ou2.out) (fun hHeld => ?_)
      clear hK K x5 x6
      try simp only [Act.put, List.setIfInBounds_toArray, List.set_cons_zero, List.set_cons_succ]
      refine wpAnyH_ready (rs := [8]) (by kernel_rfl) (by simp) (AllReadyH.cons rfl (fun K hK => ?_) AllReadyH.nil)
      refine stepAppAt rfl (.tmp 66) (.tmp 68) 24 24 rfl n 3 i0 (.int .i64 0) 1 8 Try.underlying24 hi hz0 hz1 hz2 rfl (.slice fa lf fc) lf (intCells d.F) rfl Fu2.out _ 1 (intCells [x]) rfl (src_intT Q1u2.out) ?c3 ?c4 ?c5 ?_
      case c3 => have := HLF.out; have := HFB.out; unfold maxLen; omega
      case c4 => have := HLF.out; have := HFB.out; omega
      case c5 => exact Nat.le_trans H4.out.size Ou2.out.size
      intro v1 u3 hown hgrow hfr
      obtain ⟨fa2, fc2, hve⟩ := own_shape hown
      subst hve
      rw [HLF.out] at hgrow
      have hoN : Only (SS (.slice fa d.F.length fc) (.slice va d.V.length vc)) u2 u3 := ⟨hgrow.os, hgrow.tape, hgrow.output, hgrow.size, fun k hk hne => hgrow.block k hk (fun e => hne (.inl e.symm))⟩
      have Ou3 := Lib.hid (Ou2.out.trans hoN)
      have Fu3 := Lib.hid hown
      have Vu3 : Hid (u3.ownsRow n 40 7 (.slice va lv vc) lv (vcells d.V)) := row_still Vu2.out fun b hb => hgrow.block b (Vu2.out.lt b hb).2 (fun e => two_kinds (T := 3) (T2 := 40) (by decide) (row_kindT (HLF.out ▸ Fu2.out) e.symm) (row_kindT Vu2.out hb))
      have FR : Hid (∀ b, (Value.slice fa2 (lf + 1) fc2).ownBlock = some b → (Value.slice fa d.F.length fc).ownBlock = some b ∨ wc.heap.size ≤ b) := fun b hb => by
        rcases hfr b hb with h | h
        · exact .inl (by rw [← HLF.out]; exact h)
        · exact .inr (Nat.le_trans Ou2.out.size h)
      have Q2u3 : Hid (_) := (hgrow.block _ (lt_of_block Q2u2.out) (fun e => two_kinds (T := 3) (T2 := 40) (by decide) (row_kindT (HLF.out ▸ Fu2.out) e.symm) ⟨_, Q2u2.out⟩)).trans Q2u2.out
      clear hown hgrow hfr hoN
      refine hK.out _ _ (HS.out _ Ou3.out) (fun hHeld => ?_)
      clear hK K
      try simp only [Act.put]
      try simp only [List.setIfInBounds_toArray]
      rotate_left
      have xc := (HX.out _ Ou2.out).cells
      rw [← HLF.out, ← HLV.out] at xc
      obtain ⟨_, _, _, _, _, x5, x6, _⟩ := xc
      try simp only [Go.wp_at_succ, Go.wp_at_zero]
      go_simp
      refine hK.out _ _ (HS.out _ Ou2.out) (fun hHeld => ?_)
      clear hK K x5 x6
      try simp only [Act.put, List.setIfInBounds_toArray, List.set_cons_zero, List.set_cons_succ]
      refine wpAnyH_ready (rs := [5]) (by kernel_rfl) (by simp) (AllReadyH.cons rfl (fun K hK => ?_) AllReadyH.nil)
      have xc := (HX.out _ Ou2.out).cells
      rw [← HLF.out, ← HLV.out] at xc
      obtain ⟨_, _, _, _, _, x5, x6, _⟩ := xc
      try simp only [Go.wp_at_succ, Go.wp_at_zero]
      go_simp
      refine hK.out _ _ (HS.out _ Ou2.out) (fun hHeld => ?_)
      clear hK K x5 x6
      try simp only [Act.put, List.setIfInBounds_toArray, List.set_cons_zero, List.set_cons_succ]
      refine wpAnyH_ready (rs := [8]) (by kernel_rfl) (by simp) (AllReadyH.cons rfl (fun K hK => ?_) AllReadyH.nil)
      refine stepAppAt rfl (.tmp 66) (.tmp 68) 24 24 rfl n 3 i0 (.int .i64 0) 1 8 Try.underlying24 hi hz0 hz1 hz2 rfl (.slice fa lf fc) lf (intCells d.F) rfl Fu2.out _ 1 (intCells [x]) rfl (src_intT Q1u2.out) ?c3 ?c4 ?c5 ?_
      case c3 => have := HLF.out; have := HFB.out; unfold maxLen; omega
      case c4 => have := HLF.out; have := HFB.out; omega
      case c5 => exact Nat.le_trans H4.out.size Ou2.out.size
      intro v1 u3 hown hgrow hfr
      obtain ⟨fa2, fc2, hve⟩ := own_shape hown
      subst hve
      rw [HLF.out] at hgrow
      have hoN : Only (SS (.slice fa d.F.length fc) (.slice va d.V.length vc)) u2 u3 := ⟨hgrow.os, hgrow.tape, hgrow.output, hgrow.size, fun k hk hne => hgrow.block k hk (fun e => hne (.inl e.symm))⟩
      have Ou3 := Lib.hid (Ou2.out.trans hoN)
      have Fu3 := Lib.hid hown
      have Vu3 : Hid (u3.ownsRow n 40 7 (.slice va lv vc) lv (vcells d.V)) := row_still Vu2.out fun b hb => hgrow.block b (Vu2.out.lt b hb).2 (fun e => two_kinds (T := 3) (T2 := 40) (by decide) (row_kindT (HLF.out ▸ Fu2.out) e.symm) (row_kindT Vu2.out hb))
      have FR : Hid (∀ b, (Value.slice fa2 (lf + 1) fc2).ownBlock = some b → (Value.slice fa d.F.length fc).ownBlock = some b ∨ wc.heap.size ≤ b) := fun b hb => by
        rcases hfr b hb with h | h
        · exact .inl (by rw [← HLF.out]; exact h)
        · exact .inr (Nat.le_trans Ou2.out.size h)
      have Q2u3 : Hid (_) := (hgrow.block _ (lt_of_block Q2u2.out) (fun e => two_kinds (T := 3) (T2 := 40) (by decide) (row_kindT (HLF.out ▸ Fu2.out) e.symm) ⟨_, Q2u2.out⟩)).trans Q2u2.out
      clear hown hgrow hfr hoN
      refine hK.out _ _ (HS.out _ Ou3.out) (fun hHeld => ?_)
      clear hK K
      try simp only [Act.put]
      try simp only [List.setIfInBounds_toArray]
      rotate_left
      have xc := (HX.out _ Ou1.out).cells
      rw [← HLF.out, ← HLV.out] at xc
      obtain ⟨_, _, _, _, _, x5, x6, _⟩ := xc
      try simp only [Go.wp_at_succ, Go.wp_at_zero]
      go_simp
      refine hK.out _ _ (HS.out _ Ou1.out) (fun hHeld => ?_)
      clear hK K x5 x6
      try simp only [Act.put, List.setIfInBounds_toArray, List.set_cons_zero, List.set_cons_succ]
      refine wpAnyH_ready (rs := [5, 7]) (by kernel_rfl) (by simp) (AllReadyH.cons rfl (fun K hK => ?_) (AllReadyH.cons rfl (fun K hK => ?_) AllReadyH.nil))
      have xc := (HX.out _ Ou1.out).cells
      rw [← HLF.out, ← HLV.out] at xc
      obtain ⟨_, _, _, _, _, x5, x6, _⟩ := xc
      try simp only [Go.wp_at_succ, Go.wp_at_zero]
      go_simp
      refine hK.out _ _ (HS.out _ Ou1.out) (fun hHeld => ?_)
      clear hK K x5 x6
      try simp only [Act.put, List.setIfInBounds_toArray, List.set_cons_zero, List.set_cons_succ]
      refine wpAnyH_ready (rs := [7]) (by kernel_rfl) (by simp) (AllReadyH.cons rfl (fun K hK => ?_) AllReadyH.nil)
      try simp only [Go.wp_at_succ, Go.wp_at_zero]
      go_simp
      have bN : Below u1.heap.size u1 (u1.alloc (.cells #[.int .i64 x] 3)) := (Below.refl _ _).alloc (Nat.le_refl _) _
      refine hK.out _ _ (HS.out _ (Ou1.out.then (Only.of (S := fun _ => False) bN) (fun _ _ h => h.elim))) (fun hHeld => ?_)
      clear hK K
      try simp only [Act.put, List.setIfInBounds_toArray, List.set_cons_zero, List.set_cons_succ]
      obtain ⟨u2, hN⟩ : ∃ u, u = u1.alloc (.cells #[.int .i64 x] 3) := ⟨_, rfl⟩
      rw [← hN] at hHeld bN ⊢
      have Ou2 := Lib.hid (Ou1.out.then (Only.of (S := fun _ => False) bN) (fun _ _ h => h.elim))
      have Fu2 := Lib.hid (rowOn Fu1.out bN)
      have Vu2 := Lib.hid (rowOn Vu1.out bN)
      obtain ⟨q1, hq⟩ : ∃ q, q = u1.heap.size := ⟨_, rfl⟩
      have Q1u2 : Hid (u2.heap[q1]? = some (.cells #[.int .i64 x] 3 (0, 0))) := by rw [hN, hq]; exact heap_alloc_new u1 _
      rw [← hq]
      have Q2u2 : Hid (_) := (bN.block _ (lt_of_block Q2u1.out)).trans Q2u1.out
      clear hN hq bN
      refine wpAnyH_ready (rs := [8]) (by kernel_rfl) (by simp) (AllReadyH.cons rfl (fun K hK => ?_) AllReadyH.nil)
      refine stepAppAt rfl (.tmp 66) (.tmp 68) 24 24 rfl n 3 i0 (.int .i64 0) 1 8 Try.underlying24 hi hz0 hz1 hz2 rfl (.slice fa lf fc) lf (intCells d.F) rfl Fu2.out _ 1 (intCells [x]) rfl (src_intT Q1u2.out) ?c3 ?c4 ?c5 ?_
      case c3 => have := HLF.out; have := HFB.out; unfold maxLen; omega
      case c4 => have := HLF.out; have := HFB.out; omega
      case c5 => exact Nat.le_trans H4.out.size Ou2.out.size
      intro v1 u3 hown hgrow hfr
      obtain ⟨fa2, fc2, hve⟩ := own_shape hown
      subst hve
      rw [HLF.out] at hgrow
      have hoN : Only (SS (.slice fa d.F.length fc) (.slice va d.V.length vc)) u2 u3 := ⟨hgrow.os, hgrow.tape, hgrow.output, hgrow.size, fun k hk hne => hgrow.block k hk (fun e => hne (.inl e.symm))⟩
      have Ou3 := Lib.hid (Ou2.out.trans hoN)
      have Fu3 := Lib.hid hown
      have Vu3 : Hid (u3.ownsRow n 40 7 (.slice va lv vc) lv (vcells d.V)) := row_still Vu2.out fun b hb => hgrow.block b (Vu2.out.lt b hb).2 (fun e => two_kinds (T := 3) (T2 := 40) (by decide) (row_kindT (HLF.out ▸ Fu2.out) e.symm) (row_kindT Vu2.out hb))
      have FR : Hid (∀ b, (Value.slice fa2 (lf + 1) fc2).ownBlock = some b → (Value.slice fa d.F.length fc).ownBlock = some b ∨ wc.heap.size ≤ b) := fun b hb => by
        rcases hfr b hb with h | h
        · exact .inl (by rw [← HLF.out]; exact h)
        · exact .inr (Nat.le_trans Ou2.out.size h)
      have Q2u3 : Hid (_) := (hgrow.block _ (lt_of_block Q2u2.out) (fun e => two_kinds (T := 3) (T2 := 40) (by decide) (row_kindT (HLF.out ▸ Fu2.out) e.symm) ⟨_, Q2u2.out⟩)).trans Q2u2.out
      clear hown hgrow hfr hoN
      refine hK.out _ _ (HS.out _ Ou3.out) (fun hHeld => ?_)
      clear hK K
      try simp only [Act.put]
      try simp only [List.setIfInBounds_toArray]
      rotate_left
      try simp only [Go.wp_at_succ, Go.wp_at_zero]
      go_simp
      have bN : Below u1.heap.size u1 (u1.alloc (.cells #[.int .i64 x] 3)) := (Below.refl _ _).alloc (Nat.le_refl _) _
      refine hK.out _ _ (HS.out _ (Ou1.out.then (Only.of (S := fun _ => False) bN) (fun _ _ h => h.elim))) (fun hHeld => ?_)
      clear hK K
      try simp only [Act.put, List.setIfInBounds_toArray, List.set_cons_zero, List.set_cons_succ]
      obtain ⟨u2, hN⟩ : ∃ u, u = u1.alloc (.cells #[.int .i64 x] 3) := ⟨_, rfl⟩
      rw [← hN] at hHeld bN ⊢
      have Ou2 := Lib.hid (Ou1.out.then (Only.of (S := fun _ => False) bN) (fun _ _ h => h.elim))
      have Fu2 := Lib.hid (rowOn Fu1.out bN)
      have Vu2 := Lib.hid (rowOn Vu1.out bN)
      obtain ⟨q1, hq⟩ : ∃ q, q = u1.heap.size := ⟨_, rfl⟩
      have Q1u2 : Hid (u2.heap[q1]? = some (.cells #[.int .i64 x] 3 (0, 0))) := by rw [hN, hq]; exact heap_alloc_new u1 _
      rw [← hq]
      have Q2u2 : Hid (_) := (bN.block _ (lt_of_block Q2u1.out)).trans Q2u1.out
      clear hN hq bN
      refine wpAnyH_ready (rs := [5]) (by kernel_rfl) (by simp) (AllReadyH.cons rfl (fun K hK => ?_) AllReadyH.nil)
      have xc := (HX.out _ Ou2.out).cells
      rw [← HLF.out, ← HLV.out] at xc
      obtain ⟨_, _, _, _, _, x5, x6, _⟩ := xc
      try simp only [Go.wp_at_succ, Go.wp_at_zero]
      go_simp
      refine hK.out _ _ (HS.out _ Ou2.out) (fun hHeld => ?_)
      clear hK K x5 x6
      try simp only [Act.put, List.setIfInBounds_toArray, List.set_cons_zero, List.set_cons_succ]
      refine wpAnyH_ready (rs := [8]) (by kernel_rfl) (by simp) (AllReadyH.cons rfl (fun K hK => ?_) AllReadyH.nil)
      refine stepAppAt rfl (.tmp 66) (.tmp 68) 24 24 rfl n 3 i0 (.int .i64 0) 1 8 Try.underlying24 hi hz0 hz1 hz2 rfl (.slice fa lf fc) lf (intCells d.F) rfl Fu2.out _ 1 (intCells [x]) rfl (src_intT Q1u2.out) ?c3 ?c4 ?c5 ?_
      case c3 => have := HLF.out; have := HFB.out; unfold maxLen; omega
      case c4 => have := HLF.out; have := HFB.out; omega
      case c5 => exact Nat.le_trans H4.out.size Ou2.out.size
      intro v1 u3 hown hgrow hfr
      obtain ⟨fa2, fc2, hve⟩ := own_shape hown
      subst hve
      rw [HLF.out] at hgrow
      have hoN : Only (SS (.slice fa d.F.length fc) (.slice va d.V.length vc)) u2 u3 := ⟨hgrow.os, hgrow.tape, hgrow.output, hgrow.size, fun k hk hne => hgrow.block k hk (fun e => hne (.inl e.symm))⟩
      have Ou3 := Lib.hid (Ou2.out.trans hoN)
      have Fu3 := Lib.hid hown
      have Vu3 : Hid (u3.ownsRow n 40 7 (.slice va lv vc) lv (vcells d.V)) := row_still Vu2.out fun b hb => hgrow.block b (Vu2.out.lt b hb).2 (fun e => two_kinds (T := 3) (T2 := 40) (by decide) (row_kindT (HLF.out ▸ Fu2.out) e.symm) (row_kindT Vu2.out hb))
      have FR : Hid (∀ b, (Value.slice fa2 (lf + 1) fc2).ownBlock = some b → (Value.slice fa d.F.length fc).ownBlock = some b ∨ wc.heap.size ≤ b) := fun b hb => by
        rcases hfr b hb with h | h
        · exact .inl (by rw [← HLF.out]; exact h)
        · exact .inr (Nat.le_trans Ou2.out.size h)
      have Q2u3 : Hid (_) := (hgrow.block _ (lt_of_block Q2u2.out) (fun e => two_kinds (T := 3) (T2 := 40) (by decide) (row_kindT (HLF.out ▸ Fu2.out) e.symm) ⟨_, Q2u2.out⟩)).trans Q2u2.out
      clear hown hgrow hfr hoN
      refine hK.out _ _ (HS.out _ Ou3.out) (fun hHeld => ?_)
      clear hK K
      try simp only [Act.put]
      try simp only [List.setIfInBounds_toArray]
      rotate_left
      all_goals
        as_aux_lemma =>
          refine wpAnyH_ready (rs := [15]) (by kernel_rfl) (by simp) (AllReadyH.cons rfl (fun K hK => ?_) AllReadyH.nil)
          refine stepAppAt rfl (.tmp 73) (.tmp 75) 36 36 rfl n 40 j0 (.agg #[.int .i64 0, .int .i64 0, .int .i64 0, .int .i64 0, .bool false, .int .i64 0, .slice none 0 0]) 7 72 Try.underlying36 ji jz0 jz1 jz2 rfl (.slice va lv vc) lv (vcells d.V) rfl Vu3.out _ 1 (vcell ⟨⟨pr, pn, ar, an, has, vce, C⟩, .slice a0 m c0⟩) rfl (src_vote Q2u3.out rfl) ?c3 ?c4 ?c5 ?_
          case c3 => have := HLV.out; have := HVB.out; unfold maxLen; omega
          case c4 => have := HLV.out; have := HVB.out; omega
          case c5 => exact Nat.le_trans H4.out.size Ou3.out.size
          intro v2 u4 hown hgrow hfr
          obtain ⟨va2, vc2, hve⟩ := own_shape hown
          subst hve
          rw [HLV.out] at hgrow
          have hoN : Only (SS (.slice fa d.F.length fc) (.slice va d.V.length vc)) u3 u4 := ⟨hgrow.os, hgrow.tape, hgrow.output, hgrow.size, fun k hk hne => hgrow.block k hk (fun e => hne (.inr e.symm))⟩
          have Ou4 := Lib.hid (Ou3.out.trans hoN)
          have Vu4 := Lib.hid hown
          have Fu4 : Hid (u4.ownsRow n 3 1 (.slice fa2 (lf + 1) fc2) (lf + 1) (intCells d.F ++ intCells [x])) := row_still Fu3.out fun b hb => hgrow.block b (Fu3.out.lt b hb).2 (fun e => two_kinds (T := 40) (T2 := 3) (by decide) (row_kindT (HLV.out ▸ Vu3.out) e.symm) (row_kindT Fu3.out hb))
          clear hown hgrow hfr hoN
          refine hK.out _ _ (HS.out _ Ou4.out) (fun hHeld => ?_)
          clear hK K
          try simp only [Act.put]
          try simp only [List.setIfInBounds_toArray]
          first
            | (refine held_take 16 77 (v := ?_) rfl rfl (by kernel_rfl) (by kernel_rfl) (by kernel_rfl) (fun _ _ _ h => h) (by assumption) (by rfl) ?_ ?_; rotate_left; (focus (intro w hSw; obtain ⟨hS0, hS1, hS2, hS3, hS4, hS5, hS6⟩ := hSw; go_simp <;> with_reducible rfl)))
            | refine held_pass 16 77 rfl rfl (by kernel_rfl) (by kernel_rfl) (by kernel_rfl) (fun _ _ _ h => h) (by assumption) (by rfl) ?_
          try simp only [Act.put]
          first
            | (refine held_take 17 78 (v := ?_) rfl rfl (by kernel_rfl) (by kernel_rfl) (by kernel_rfl) (fun _ _ _ h => h) (by assumption) (by rfl) ?_ ?_; rotate_left; (focus (intro w hSw; obtain ⟨hS0, hS1, hS2, hS3, hS4, hS5, hS6⟩ := hSw; go_simp <;> with_reducible rfl)))
            | refine held_pass 17 78 rfl rfl (by kernel_rfl) (by kernel_rfl) (by kernel_rfl) (fun _ _ _ h => h) (by assumption) (by rfl) ?_
          try simp only [Act.put]
          have x3 := HX.out _ Ou4.out
          have xc := x3.cells
          rw [← HLF.out, ← HLV.out] at xc
          obtain ⟨_, _, _, _, _, x5, x6, _⟩ := xc
          have z5 := x3.free 5
          have z6 := x3.free 6
          have HEND : Hid (RTal n w0 X (.slice va2 (lv + 1) vc2) (.slice fa2 (lf + 1) fc2) sv (proD d x ⟨⟨pr, pn, ar, an, has, vce, C⟩, .slice a0 m c0⟩ true) ((u4.setCell ⟨X, 6, none⟩ (.slice fa2 (lf + 1) fc2)).setCell ⟨X, 5, none⟩ (.slice va2 (lv + 1) vc2))) := HENDX.out _ _ _ Ou4.out Fu4.out Vu4.out FR.out
          have HO : Hid (∀ u, Only (· = X) u4 u → (fun u => u.cell? ⟨w.heap.size, 0, none⟩ = some (.int .i64 pr) ∧ u.cell? ⟨w.heap.size, 1, none⟩ = some (.int .i64 pn) ∧ u.cell? ⟨w.heap.size, 2, none⟩ = some (.int .i64 ar) ∧ u.cell? ⟨w.heap.size, 3, none⟩ = some (.int .i64 an) ∧ u.cell? ⟨w.heap.size, 4, none⟩ = some (.bool has) ∧ u.cell? ⟨w.heap.size, 5, none⟩ = some (.int .i64 vce) ∧ u.cell? ⟨w.heap.size, 6, none⟩ = some (.slice a0 m c0)) u) := fun u hu => by
            have hh := HS.out _ Ou4.out
            have hl : w.heap.size < u4.heap.size := Nat.lt_of_lt_of_le V4.out.lt Ou4.out.size
            have c : ∀ j, u.cell? ⟨w.heap.size, j, none⟩ = u4.cell? ⟨w.heap.size, j, none⟩ := fun j => hu.cell (p := ⟨w.heap.size, j, none⟩) hl (by have := HXL.out; show ¬ w.heap.size = X; omega)
            simp only [c]
            exact hh
          have o1 : Hid (Only (· = X) u4 (u4.setCell ⟨X, 6, none⟩ (.slice fa2 (lf + 1) fc2))) := Only.set X 6 _ _
          have o2 : Hid (Only (· = X) u4 ((u4.setCell ⟨X, 6, none⟩ (.slice fa2 (lf + 1) fc2)).setCell ⟨X, 5, none⟩ (.slice va2 (lv + 1) vc2))) := o1.out.trans (Only.set X 5 _ _)
          clear x3
          refine wpAnyH_ready (rs := [18]) (by kernel_rfl) (by simp) (AllReadyH.cons rfl (fun K hK => ?_) AllReadyH.nil)
          try simp only [Go.wp_at_succ, Go.wp_at_zero]
          go_simp
          refine hK.out _ _ (HO.out _ o1.out) (fun hHeld => ?_)
          clear hK K
          try simp only [Act.put]
          first
            | (refine held_take 19 79 (v := ?_) rfl rfl (by kernel_rfl) (by kernel_rfl) (by kernel_rfl) (fun _ _ _ h => h) (by assumption) (by rfl) ?_ ?_; rotate_left; (focus (intro w hSw; obtain ⟨hS0, hS1, hS2, hS3, hS4, hS5, hS6⟩ := hSw; go_simp <;> with_reducible rfl)))
            | refine held_pass 19 79 rfl rfl (by kernel_rfl) (by kernel_rfl) (by kernel_rfl) (fun _ _ _ h => h) (by assumption) (by rfl) ?_
          try simp only [Act.put]
          first
            | (refine held_take 20 80 (v := ?_) rfl rfl (by kernel_rfl) (by kernel_rfl) (by kernel_rfl) (fun _ _ _ h => h) (by assumption) (by rfl) ?_ ?_; rotate_left; (focus (intro w hSw; obtain ⟨hS0, hS1, hS2, hS3, hS4, hS5, hS6⟩ := hSw; go_simp <;> with_reducible rfl)))
            | refine held_pass 20 80 rfl rfl (by kernel_rfl) (by kernel_rfl) (by kernel_rfl) (fun _ _ _ h => h) (by assumption) (by rfl) ?_
          try simp only [Act.put]
          refine wpAnyH_ready (rs := [21]) (by kernel_rfl) (by simp) (AllReadyH.cons rfl (fun K hK => ?_) AllReadyH.nil)
          try simp only [Go.wp_at_succ, Go.wp_at_zero]
          go_simp
          refine hK.out _ _ (HO.out _ o2.out) (fun hHeld => ?_)
          clear hK K
          try simp only [Act.put]
          refine wpAnyH_done (by kernel_rfl) ?_ _
          clear hHeld
          go_wp2
          go_returns
          exact ⟨by first | rfl | trivial, _, _, HEND.out, fun b hb => by
            rcases FR.out b hb with h | h
            · exact .inl h
            · exact .inr (Nat.le_trans HSW.out h), ((Only.of HBW.out).then Ou4.out (fun _ _ h => .inr h)).then o2.out (fun _ _ h => .inl h)⟩

end Go.Proofs.Ytiidmiioegdfaaa
