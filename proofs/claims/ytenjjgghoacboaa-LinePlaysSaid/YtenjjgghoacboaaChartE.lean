/-
  THE REFERENCE's Versions AND Ask, of versions at most a million.
-/
import Derived.Test.YtenjjgghoacboaaChartH2
import Derived.Deep.AppendLies
import Derived.Deep.RegionLaw
import Derived.BigRegion
namespace Go.Proofs.Ytenjjgghoacboaa
open Go.RowKit

theorem ver_eq (g g' : Bool) (d d' : ByteArray) : (g == g' && d.toList == d'.toList) = decide ((⟨g, d⟩ : VerV) = ⟨g', d'⟩) := by
  rw [Bool.eq_iff_iff]
  simp only [Bool.and_eq_true, beq_iff_eq, VerV.mk.injEq, decide_eq_true_eq]
  constructor
  · rintro ⟨h1, h2⟩
    refine ⟨h1, ?_⟩
    rw [ByteArray.toList_eq, ByteArray.toList_eq] at h2
    exact ByteArray.ext (Array.toList_inj.1 h2)
  · rintro ⟨h1, h2⟩
    rw [h1, h2]
    exact ⟨rfl, rfl⟩

theorem run_ne_ver (g g' : Bool) (d d' : ByteArray) (w : World) :
    (binOp .neq 121 (.agg #[.bool g, .string d]) (.agg #[.bool g', .string d'])).run Try.prog w = .ok (.bool (!(g == g' && d.toList == d'.toList))) w := by
  rw [run_neq_struct, run_equalIn_agg _ _ _ _ _ (by kernel_rfl) (by kernel_rfl)]
  simp [Program.fieldsOf, Try.underlying121, Op.eqFields, go_sem]
  repeat' split
  all_goals simp_all

/-- A comparison (!=) of two structs whose run lies as a fact. -/
theorem exec_ne_agg {P : Program} {o : Oper} {a : Act} {t t2 : TypeId} {x y : Operand} {v : Value} {w : World} (cx cy : Array Value) (hg : P.eqGuardType P.depth t = false) (ho : o.op = .binOp .neq t x y t2) (hx : a.eval x = .agg cx) (hy : a.eval y = .agg cy)
    (h : (binOp .neq t (.agg cx) (.agg cy)).run P w = .ok v w) :
    (execOp a.eval o).run P w = .ok (.value v) w := by
  unfold execOp
  rw [ho]
  simp only [hx, hy]
  have hge := run_eqGuard_agg (P := P) (w := w) BinOp.neq t x y cx cy hg
  generalize binOp .neq t (.agg cx) (.agg cy) = B at h ⊢
  generalize eqGuard .neq t x y (.agg cx) (.agg cy) = E at hge ⊢
  simp [go_sem, hge, h]

theorem vtake_snoc (L : List VerV) (k : Nat) (h : k < L.length) : L.take (k + 1) = L.take k ++ [at' L k] := by
  rw [List.take_succ_eq_append_getElem h]
  simp [at', List.getD, h]

set_option maxHeartbeats 2000000 in
set_option maxRecDepth 100000 in
theorem versions_same (b1 o1 b2 o2 n c1 c2 : Nat) (L1 L2 : List VerV) (w : World) (h1 : L1.length = n) (h2 : L2.length = n) (hm : n ≤ 1000000) (hb1 : b1 < w.heap.size) (hb2 : b2 < w.heap.size)
    (hc1 : ∀ j, j < n → w.cell? ⟨b1, o1 + j * 2, none⟩ = some (.bool (at' L1 j).gone) ∧ w.cell? ⟨b1, o1 + j * 2 + 1, none⟩ = some (.string (at' L1 j).data))
    (hc2 : ∀ j, j < n → w.cell? ⟨b2, o2 + j * 2, none⟩ = some (.bool (at' L2 j).gone) ∧ w.cell? ⟨b2, o2 + j * 2 + 1, none⟩ = some (.string (at' L2 j).data)) :
    Calls Try.prog 91 #[.slice (some ⟨b1, o1, none⟩) n c1, .slice (some ⟨b2, o2, none⟩) n c2] w fun e w' => e = .returned (.bool (decide (L1 = L2))) ∧ Below w.heap.size w w' := by
  have H1 := Lib.hid hc1
  have H2 := Lib.hid hc2
  have N1 := Lib.hid h1
  have N2 := Lib.hid h2
  obtain ⟨R, hR⟩ : ∃ R, R = decide (L1 = L2) := ⟨_, rfl⟩
  rw [← hR]
  have HR := Lib.hid hR
  clear hc1 hc2 h1 h2 hR
  go_enter Try.func91, Try.ntmps91
  go_wp2
  go_loopw [5] (fun vi wr => ∃ k : Nat, k ≤ n ∧ vi = .int .i64 k ∧ L1.take k = L2.take k ∧ Below w.heap.size w wr) (fun vi _ => n - (intOf vi).toNat)
  case atStart => exact ⟨0, by omega, rfl, rfl, Below.refl _ _⟩
  case round =>
    obtain ⟨k, hk, rfl, heq, hnx⟩ := hrel
    have HQ := Lib.hid heq
    have HB := Lib.hid hnx
    clear heq
    by_cases hlt : k < n
    · obtain ⟨⟨g, d⟩, hx⟩ : ∃ x, x = at' L1 k := ⟨_, rfl⟩
      obtain ⟨⟨g', d'⟩, hy⟩ : ∃ y, y = at' L2 k := ⟨_, rfl⟩
      have T1 : Hid (L1.take (k + 1) = L1.take k ++ [⟨g, d⟩]) := by show _ = _; rw [hx]; exact vtake_snoc L1 k (by rw [N1.out]; exact hlt)
      have T2 : Hid (L2.take (k + 1) = L2.take k ++ [⟨g', d'⟩]) := by show _ = _; rw [hy]; exact vtake_snoc L2 k (by rw [N2.out]; exact hlt)
      have q1 := H1.out k hlt
      have q2 := H2.out k hlt
      rw [← hx] at q1
      rw [← hy] at q2
      have FX : Hid (∀ u, Below wr.heap.size wr u → u.cell? ⟨b1, o1 + k * 2, none⟩ = some (.bool g) ∧ u.cell? ⟨b1, o1 + k * 2 + 1, none⟩ = some (.string d) ∧ u.cell? ⟨b2, o2 + k * 2, none⟩ = some (.bool g') ∧ u.cell? ⟨b2, o2 + k * 2 + 1, none⟩ = some (.string d')) := by
        intro u hu
        have hb := hnx.trans (hu.mono hnx.size)
        exact ⟨(hb.cell (p := ⟨b1, o1 + k * 2, none⟩) hb1).trans q1.1, (hb.cell (p := ⟨b1, o1 + k * 2 + 1, none⟩) hb1).trans q1.2, (hb.cell (p := ⟨b2, o2 + k * 2, none⟩) hb2).trans q2.1, (hb.cell (p := ⟨b2, o2 + k * 2 + 1, none⟩) hb2).trans q2.2⟩
      obtain ⟨e1, e2, e3, e4⟩ := FX.out wr (Below.refl _ _)
      clear hx hy hnx q1 q2
      have i0 : (0 : Int) ≤ (k : Int) := by omega
      have i1 : (k : Int) < (n : Int) := by omega
      clear e1 e2 e3 e4
      obtain ⟨Q, hQ⟩ : ∃ Q, Q = !(g == g' && d.toList == d'.toList) := ⟨_, rfl⟩
      have HE : Hid (∀ u, (binOp .neq 121 (.agg #[.bool g, .string d]) (.agg #[.bool g', .string d'])).run Try.prog u = .ok (.bool Q) u) := fun u => by rw [hQ]; exact run_ne_ver g g' d d' u
      rw [ver_eq] at hQ
      have HQQ := Lib.hid hQ
      clear hQ
      go_wp2_with fail
      refine region_quiet (fun v => Below wr.heap.size wr v) (by kernel_rfl) (by kernel_rfl) ((Below.refl _ _).drew) ?_
      repeat (first
        | go_big_quiet_skip
        | (go_big_quiet_want
           (first
            | (refine quiet_run (v := ?_) ?_ ?_; rotate_left; (intro u hu; obtain ⟨e1, e2, e3, e4⟩ := FX.out u hu; go_simp <;> with_reducible rfl); simp only [Act.put, List.setIfInBounds_toArray, List.set_cons_zero, List.set_cons_succ]; go_big_quiet_on)
            | (refine quiet_run (v := .bool Q) (fun u _ => exec_ne_agg _ _ (by kernel_rfl) rfl rfl rfl (HE.out u)) ?_; simp only [Act.put, List.setIfInBounds_toArray, List.set_cons_zero, List.set_cons_succ]; go_big_quiet_on))))
      refine wpQuiet_nil ?_

      intro w4 h4
      have HB4 := Lib.hid (HB.out.trans (h4.mono HB.out.size))
      clear h4
      cases hQ : Q
      · have hxy : (⟨g, d⟩ : VerV) = ⟨g', d'⟩ := by have := HQQ.out; rw [hQ] at this; simpa using this
        have HXY := Lib.hid hxy
        clear hxy
        subst hQ
        go_wp2
        go_roundw
        case rel => exact ⟨k + 1, by omega, by go_num, by rw [T1.out, T2.out, HQ.out, HXY.out], HB4.out⟩
        case measure => simp [intOf]; omega
      · have hxy : (⟨g, d⟩ : VerV) ≠ ⟨g', d'⟩ := by intro h; have := HQQ.out; rw [hQ, decide_eq_true h] at this; simp at this
        have HF : Hid (R = false) := by
          show _ = _
          rw [HR.out]
          refine decide_eq_false fun h => hxy ?_
          have h1 := T1.out
          rw [h, T2.out] at h1
          have := List.append_cancel_left h1
          exact (List.cons.inj this).1.symm
        clear hxy
        subst hQ
        go_wp2
        go_returns
        exact ⟨ret_bool HF.out.symm, HB4.out⟩
    · have HF : Hid (R = true) := by
        show _ = _
        rw [HR.out]
        refine decide_eq_true ?_
        have := HQ.out
        rw [List.take_of_length_le (by rw [N1.out]; omega), List.take_of_length_le (by rw [N2.out]; omega)] at this
        exact this
      clear hnx
      go_wp2
      go_returns
      exact ⟨ret_bool HF.out.symm, HB.out⟩

set_option maxHeartbeats 1000000 in
theorem versions_any (v1 v2 : Value) (L1 L2 : List VerV) (B : Nat) (w : World) (h1 : Vers w B v1 L1) (h2 : Vers w B v2 L2) (hB : B ≤ w.heap.size) (hm : L1.length ≤ 1000000) :
    Calls Try.prog 91 #[v1, v2] w fun e w' => e = .returned (.bool (decide (L1 = L2))) ∧ Below w.heap.size w w' := by
  obtain ⟨a1, c1, rfl, _, m1, _, g1⟩ := h1
  obtain ⟨a2, c2, rfl, _, m2, _, g2⟩ := h2
  by_cases he : L1.length = L2.length
  · by_cases h0 : L1.length = 0
    · have e1 : L1 = [] := List.eq_nil_of_length_eq_zero h0
      have e2 : L2 = [] := List.eq_nil_of_length_eq_zero (by omega)
      subst e1 e2
      clear g1 g2
      go_enter Try.func91, Try.ntmps91
      go_wp2
      refine wp_loop_rounds 1 ?_
      rw [rounds_succ]
      go_wp2
      go_returns
      exact ⟨rfl, Below.refl _ _⟩
    · obtain ⟨b1, o1, rfl, hb1, hc1⟩ := g1 (by intro h; rw [h] at h0; simp at h0)
      obtain ⟨b2, o2, rfl, hb2, hc2⟩ := g2 (by intro h; rw [h] at he; simp at he; exact h0 (by simp [he]))
      rw [← he] at hc2 ⊢
      exact versions_same b1 o1 b2 o2 L1.length c1 c2 L1 L2 w rfl he.symm hm (by omega) (by omega) hc1 hc2
  · have hr : decide (L1 = L2) = false := decide_eq_false fun h => he (by rw [h])
    rw [hr]
    obtain ⟨n1, hn1⟩ : ∃ n, n = L1.length := ⟨_, rfl⟩
    obtain ⟨n2, hn2⟩ : ∃ n, n = L2.length := ⟨_, rfl⟩
    rw [← hn1, ← hn2]
    have hne : ((n1 : Int) == (n2 : Int)) = false := by rw [beq_eq_false_iff_ne]; omega
    clear g1 g2 hr hn1 hn2 he hm
    go_enter Try.func91, Try.ntmps91
    go_wp2
    go_returns
    exact ⟨rfl, Below.refl _ _⟩
end Go.Proofs.Ytenjjgghoacboaa
