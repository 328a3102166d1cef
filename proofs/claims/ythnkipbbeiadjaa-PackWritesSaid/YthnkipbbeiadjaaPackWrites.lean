/-
  PROVED: casebooklaw1.PackWrites answers true and leaves its argument as it was, for every slice of things that can be read: the row's own reading and nothing else is assumed.
-/
import Derived.Test.YthnkipbbeiadjaaPackOps
namespace Go.Proofs.Ythnkipbbeiadjaa.PackWrites
open Go.ChangeShapes Go.WideShapes Go.ChangeAt Go.RowKit

/-- The bytes of one thing. -/
def opB (o : OpV) : List UInt8 := if o.kind = 0 then Lib.uvarint o.num else if o.kind = 1 then Lib.uvarint o.str.size ++ o.str.data.toList else [if o.yes then 1 else 0]
def outOf (L : List OpV) : List UInt8 := L.flatMap opB

theorem outOf_take (L : List OpV) (k : Nat) (h : k < L.length) : outOf (L.take (k + 1)) = outOf (L.take k) ++ opB L[k] := by
  unfold outOf
  rw [List.take_succ_eq_append_getElem h, List.flatMap_append]
  simp

theorem own_cell {w : World} {base g cap n : Nat} {l : List UInt8} (h : w.ownsRow base 5 1 (.slice (some ⟨g, 0, none⟩) n cap) n (Lib.byteCells l)) (j : Nat) (hj : j < l.length) : w.cell? ⟨g, j, none⟩ = some (.int .u8 (l.getD j 0).toNat) := by
  have hn : l.length = n := by have := h.1; rw [Lib.byteCells_length] at this; omega
  rw [h.cellAt j (by omega), byteCells_get l j hj]

theorem strcat (A B : List UInt8) (h : A.length + B.length ≤ 100000) (W : World) : (Op.stringOp .add ⟨A.toArray⟩ ⟨B.toArray⟩).run Try.prog W = .ok (.string ⟨(A ++ B).toArray⟩) W := by
  rw [run_string_add_sum W _ _ (by show A.toArray.size + B.toArray.size ≤ _; rw [List.size_toArray, List.size_toArray]; omega), ByteArray.mk_append_mk]

set_option maxHeartbeats 4000000 in
set_option maxRecDepth 100000 in
theorem walk (v : Value) (L : List OpV) (w : World) (hL : Ops w w.heap.size v L) :
    Calls Try.prog 3 #[v] w fun e w' => e = .returned (.bool true) ∧ Below w.heap.size w w' := by
  obtain ⟨ao, cap, rfl, hm, hfit, hcells⟩ := hL
  unfold maxLen at hm
  by_cases h40 : 40 < L.length
  · clear hcells hfit
    go_enter Try.func3, Try.ntmps3
    go_wp2_with (go_at_call 11; refine (told_any _).mono ?_; rintro e w' ⟨rfl, hb⟩)
    go_returns
    exact ⟨rfl, by assumption⟩
  · obtain ⟨n, hn⟩ : ∃ n, n = L.length := ⟨_, rfl⟩
    rw [← hn] at h40 hm ⊢
    have hn40 : n ≤ 40 := by omega
    have HN := Lib.hid hn
    have HC := Lib.hid hcells
    have HF := Lib.hid hfit
    have hW0 := Lib.hid (Wrt.fresh w 26)
    clear hcells hfit hn h40 hm
    go_enter Try.func3, Try.ntmps3
    go_wp2
    go_loopw [4, 5] (fun vs vi wr => ∃ (k : Nat) (X : List UInt8), k ≤ n ∧ vi = .int .i64 k ∧ vs = .string ⟨X.toArray⟩ ∧ X = outOf (L.take k) ∧ X.length ≤ 310 * k ∧ Wrt wr w.heap.size X ∧ Below w.heap.size w wr)
      (fun _ vi _ => n - (intOf vi).toNat)
    case atStart => exact ⟨0, [], by omega, rfl, rfl, rfl, by simp, hW0.out, (Below.refl _ _).alloc (Nat.le_refl _) _⟩
    case round =>
      obtain ⟨k, X, hk, rfl, rfl, hX, hXl, hWr, hnx⟩ := hrel
      have HX := Lib.hid hX
      have HNX := Lib.hid hnx
      have HWR := Lib.hid hWr
      clear hX hWr
      by_cases hkn : k < n
      · have hkL : k < L.length := by rw [← HN.out]; exact hkn
        obtain ⟨b, off, rfl, hbw, hcc⟩ := HC.out (fun e => by rw [e] at hkL; simp at hkL)
        have hc := (hcc k hkL).keep hnx hbw
        have hfo := HF.out _ (List.getElem_mem hkL)
        have HT := Lib.hid (outOf_take L k hkL)
        clear hcc hnx
        generalize L[k] = o at hc hfo HT
        obtain ⟨kd, nm, st, ys, mr⟩ := o
        have HOC := Lib.hid hc
        have HNM : Hid (nm < 18446744073709551616) := hfo.1
        have hst : st.size ≤ 9223372036854775807 := hfo.2.1
        have c0 := hc.kind
        have c2 := hc.str
        simp only at c0 c2
        clear hc hfo hkL
        by_cases h300 : 300 < st.size
        · go_wp2_with (go_at_call 11; refine (told_any _).mono ?_; rintro e w' ⟨rfl, hb⟩)
          go_returns
          exact ⟨rfl, HNX.out.trans ((by assumption : Below wr.heap.size wr _).mono HNX.out.size)⟩
        · have hgw : w.heap.size < wr.heap.size := HWR.out.lt
          have hst3 : st.size ≤ 300 := by omega
          clear hst h300
          rcases (show kd = 0 ∨ kd = 1 ∨ (kd ≠ 0 ∧ kd ≠ 1) by omega) with h0 | h1 | ⟨h0, h1⟩
          · have HB : Hid (outOf (L.take (k + 1)) = X ++ Lib.uvarint nm) := by
              show _ = _
              rw [HT.out, ← HX.out]; unfold opB; rw [if_pos h0]
            subst h0
            have c1 := HOC.out.num
            simp only at c1
            have hul := Lib.uvarint_length64 HNM.out
            have hC := Lib.hid (wnum_any w.heap.size nm HNM.out X wr HWR.out (by omega))
            go_wp2_with fail
            refine hC.out.mono ?_
            rintro e w1 ⟨rfl, hW1, hb1⟩
            have HNX1 := Lib.hid (HNX.out.trans hb1)
            have HW1 := Lib.hid hW1
            have d1 := (HOC.out.keep hb1 hbw).num
            simp only at d1
            have hsc := strcat X (Lib.uvarint nm) (by omega)
            have hC2 := Lib.hid (refnum_any nm HNM.out w1)
            clear hb1 hW1 c0 c1 c2 hC
            go_wp2_with fail
            refine hC2.out.mono ?_
            rintro e w2 ⟨rfl, hb2⟩
            have HNX2 := Lib.hid (HNX1.out.trans (hb2.mono HNX1.out.size))
            have HW2 := Lib.hid (HW1.out.below hb2)
            clear hb2 hC2
            go_wp2
            go_roundw
            case rel => exact ⟨k + 1, X ++ Lib.uvarint nm, by omega, by go_num, rfl, HB.out.symm, by rw [List.length_append]; omega, HW2.out, HNX2.out⟩
            case measure => simp [intOf]; omega
          · have HB : Hid (outOf (L.take (k + 1)) = X ++ (Lib.uvarint st.size ++ st.data.toList)) := by
              show _ = _
              rw [HT.out, ← HX.out]; unfold opB; rw [if_neg (show ¬ kd = 0 by omega), if_pos h1]
            subst h1
            have hul : (Lib.uvarint st.size).length ≤ 10 := Lib.uvarint_length64 (by omega)
            have hsl : st.data.toList.length = st.size := by rw [Array.length_toList]; rfl
            have hC := Lib.hid (wtext_any w.heap.size st X wr HWR.out (by omega))
            have hsc := strcat X (Lib.uvarint st.size ++ st.data.toList) (by rw [List.length_append, hsl]; omega)
            have HSL : Hid ((X ++ (Lib.uvarint st.size ++ st.data.toList)).length ≤ 310 * (k + 1)) := by show _ ≤ _; rw [List.length_append, List.length_append, hsl]; omega
            clear hsl
            go_wp2_with fail
            refine hC.out.mono ?_
            rintro e w1 ⟨rfl, hW1, hb1⟩
            have HNX1 := Lib.hid (HNX.out.trans hb1)
            rw [List.append_assoc] at hW1
            have HW1 := Lib.hid hW1
            have d1 := (HOC.out.keep hb1 hbw).str
            simp only at d1
            have hC2 := Lib.hid (reftext_any st w1 (by omega))
            clear hb1 hW1 c0 c2 hC
            go_wp2_with fail
            refine hC2.out.mono ?_
            rintro e w2 ⟨rfl, hb2⟩
            have HNX2 := Lib.hid (HNX1.out.trans (hb2.mono HNX1.out.size))
            have HW2 := Lib.hid (HW1.out.below hb2)
            clear hb2 hC2
            go_wp2
            go_roundw
            case rel => exact ⟨k + 1, X ++ (Lib.uvarint st.size ++ st.data.toList), by omega, by go_num, rfl, HB.out.symm, HSL.out, HW2.out, HNX2.out⟩
            case measure => simp [intOf]; omega
          · have HB : Hid (outOf (L.take (k + 1)) = X ++ [if ys then 1 else 0]) := by
              show _ = _
              rw [HT.out, ← HX.out]; unfold opB; rw [if_neg h0, if_neg h1]
            have c3 := HOC.out.yes
            simp only at c3
            have hC := Lib.hid (wyes_any w.heap.size ys X wr HWR.out (by omega))
            have HSL : Hid ((X ++ [if ys then (1 : UInt8) else 0]).length ≤ 310 * (k + 1)) := by show _ ≤ _; rw [List.length_append, List.length_singleton]; omega
            have hsc := strcat X [if ys then 1 else 0] (by rw [List.length_singleton]; omega)
            have HSC := Lib.hid hsc
            clear hsc
            go_wp2_with fail
            refine hC.out.mono ?_
            rintro e w1 ⟨rfl, hW1, hb1⟩
            have HNX1 := Lib.hid (HNX.out.trans hb1)
            have HW1 := Lib.hid hW1
            have d1 := (HOC.out.keep hb1 hbw).yes
            simp only at d1
            have hC2 := Lib.hid (refyes_any ys w1)
            clear hb1 hW1 c0 c2 c3 hC
            generalize hy : (if ys = true then (1 : UInt8) else 0) = y at HSL HSC HB HW1 hC2
            clear hy
            have hsc := HSC.out
            go_wp2_with fail
            refine hC2.out.mono ?_
            rintro e w2 ⟨rfl, rfl⟩
            clear hC2
            go_wp2
            go_roundw
            case rel => exact ⟨k + 1, X ++ [y], by omega, by go_num, rfl, HB.out.symm, HSL.out, HW1.out, HNX1.out⟩
            case measure => simp [intOf]; omega
      · have hkn' : k = n := by omega
        have hXl2 : X.length ≤ 12400 := by omega
        have hsw : w.heap.size ≤ wr.heap.size := HNX.out.size
        clear hkn' hk hXl
        have hC := Lib.hid (wbytes_any w.heap.size X wr HWR.out (by omega))
        clear hnx
        go_wp2_with fail
        refine hC.out.mono ?_
        rintro e w3 ⟨v3, rfl, hown3, hb3⟩
        have hw3 := hb3.size
        by_cases hX0 : X.length = 0
        · obtain ⟨a3, c3, rfl⟩ := own_shape hown3
          have HW4 := Lib.hid (HWR.out.below hb3)
          have HNX4 := Lib.hid (HNX.out.trans (hb3.mono hsw))
          have hX1 : ¬ 0 < X.length := by omega
          clear hown3 hb3 hX0
          go_wp2_with (first
            | (go_at_call 11; refine (told_any _).mono ?_; rintro e w5 ⟨rfl, hb5⟩; have HW5 := Lib.hid (HW4.out.below hb5); have HNX5 := Lib.hid (HNX4.out.trans (hb5.mono HNX4.out.size)); clear hb5)
            | (go_at_call 18; refine (wbytes_any w.heap.size X _ HW5.out (by omega)).mono ?_; rintro e w6 ⟨v6, rfl, hown6, hb6⟩; have HNX6 := Lib.hid (HNX5.out.trans (hb6.mono HNX5.out.size)); have hk6 := run_conv_byt (byt_own hown6 (Nat.le_refl _)); clear hown6 hb6))
          go_returns
          exact ⟨rfl, HNX6.out⟩
        · obtain ⟨g, cap3, rfl⟩ : ∃ g cap, v3 = .slice (some ⟨g, 0, none⟩) X.length cap := by
            rcases hown3.2 with ⟨_, h0⟩ | ⟨g, cap, cur, rfl, _⟩
            · omega
            · exact ⟨g, cap, rfl⟩
          have hgl := (hown3.lt g rfl).1
          have hX1 : 0 < X.length := by omega
          have hc := own_cell hown3 0 hX1
          have hf := hown3.frozenAt 0
          generalize X.getD 0 0 = c at hc
          have hc256 := c.toNat_lt
          have HW4 : Hid (∀ u, Wrt (w3.setCell ⟨g, 0, none⟩ u) w.heap.size X) := fun u => HWR.out.below (hb3.setCell (p := ⟨g, 0, none⟩) hgl u)
          have HNX4 : Hid (∀ u, Below w.heap.size w (w3.setCell ⟨g, 0, none⟩ u)) := fun u => (HNX.out.trans (hb3.mono hsw)).setCell (p := ⟨g, 0, none⟩) (by show _ ≤ g; omega) u
          clear hown3 hb3 hX0
          go_wp2_with (first
            | (go_at_call 11; refine (told_any _).mono ?_; rintro e w5 ⟨rfl, hb5⟩; have HW5 := Lib.hid ((HW4.out _).below hb5); have HNX5 := Lib.hid ((HNX4.out _).trans (hb5.mono (HNX4.out _).size)); clear hb5)
            | (go_at_call 18; refine (wbytes_any w.heap.size X _ HW5.out (by omega)).mono ?_; rintro e w6 ⟨v6, rfl, hown6, hb6⟩; have HNX6 := Lib.hid (HNX5.out.trans (hb6.mono HNX5.out.size)); have hk6 := run_conv_byt (byt_own hown6 (Nat.le_refl _)); clear hown6 hb6))
          go_returns
          exact ⟨rfl, HNX6.out⟩

set_option maxRecDepth 100000 in
theorem lifted (os : Os) (started : os.Started) (H : Type) (enc : TypeId × Value → H) :
    ReturnsInHanded {} Try.checked os 3 .any (Rows.packWritesSpec.pre6 enc Try.prog Try.f3 Rows.packWritesRow.domain false) (Rows.packWritesSpec.post enc Try.prog Try.f3 false true false false) := by
  refine returnsInHanded_of_change (C := Try.checked) own started (by kernel_rfl) Try.func3
    (ChangeSpec.witness6 (enc := enc) (C := Try.checked) false ⟨#[], #[.slice none 0 0], []⟩ 8 (by kernel_rfl) (by kernel_rfl) (by kernel_rfl) (by kernel_rfl)) ?_
  intro W base args ds gs before hval0 hW hcnd _
  have hval : ∀ (j : Nat) t v, Try.f3.params[j]? = some t → args[j]? = some v → Value.okWide Try.prog W .any base t v := hval0
  have hW' := hW
  obtain ⟨p, q, hA0, hV, rfl, hfz, hnd⟩ := hW
  have hA : DataW.TrodAll enc Try.prog W 0 (fun _ => true) true Try.f3.params.toList args.toList ds p := hA0
  rw [Try.params3] at hA hval
  obtain ⟨v0, vs0, d0, ds0, p0, q0, hargs, rfl, rfl, h0, r0⟩ := trodAll_cons hA
  obtain ⟨rfl, rfl, rfl⟩ := trodAll_nil r0
  obtain rfl : args = #[v0] := by cases args; simp_all
  obtain ⟨rfl, rfl⟩ := trodVars_none hV
  obtain ⟨a0, len0, cap0, rfl⟩ := okWide_slice Try.underlying22 (hval 0 22 v0 rfl rfl)
  have k0 := h0
  have lt0 : ∀ x ∈ p0, x.block < W.heap.size := by obtain ⟨m, hm⟩ := k0; exact DataW.trod_lt m _ _ _ hm
  obtain ⟨l0, w0⟩ := ops_open h0
  clear hA0 hval0
  refine (walk (.slice a0 len0 cap0) l0 W w0).mono fun e W' ⟨he, bel⟩ => ?_
  subst he
  exact ⟨_, rfl, _, _, _, [], _, [], hW', trodAll_mk1 (shut_bool Try.underlying4 _), (trodAll_cons_mk (Below.trod laidOut (by kernel_rfl) (of_decide_eq_true (by kernel_rfl)) k0 bel lt0) trodAll_mk0), rfl, bel.frame _, fun h => by cases h⟩

theorem over : Rows.packWritesRow.holds Try.pinned (OpenSpec.ofChange Rows.packWritesSpec) :=
  OpenClaim.holds_of_wide 3 Try.f3 rfl rfl rfl rfl rfl rfl rfl ⟨rfl, rfl, rfl, rfl, rfl⟩ rfl rfl rfl rfl rfl (by kernel_rfl) Try.func3 (by kernel_rfl)
    (of_decide_eq_true (by kernel_rfl)) (by unfold Func.isWrapper; first | (rw [if_pos (by decide +kernel)]; kernel_rfl) | (rw [if_neg (by decide +kernel)]; exact ⟨rfl, rfl⟩))
    (fun os started H enc _ => lifted os started H enc)
end Go.Proofs.Ythnkipbbeiadjaa.PackWrites

namespace Go.Proofs.Ythnkipbbeiadjaa
theorem packWrites_holds : Rows.PackWritesSaid := PackWrites.over
#print axioms packWrites_holds
end Go.Proofs.Ythnkipbbeiadjaa
