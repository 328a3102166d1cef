/-
  THE REFERENCE's LEASE: Valid, Lost. Of at most four questions. Written by gen/XQHl.gen.py.
-/
import Derived.Test.YtomjlhmkmihbeaaQHt
namespace Go.Proofs.Ytomjlhmkmihbeaa
open Go.RowKit

/-- All blocks stand but the reference's own; what lay below n0 is as it was. -/
structure KRf (n0 : Nat) (w w' : World) : Prop where
  size : w.heap.size ≤ w'.heap.size
  same : ∀ (b : Nat) (cs : Array Value) (T : TypeId), w.heap[b]? = some (.cells cs T (0, 0)) → T ≠ 34 → T ≠ 77 → w'.heap[b]? = some (.cells cs T (0, 0))
  bel : ∀ a, n0 ≤ w.heap.size → Below n0 a w → Below n0 a w'
theorem KRf.of {n0 : Nat} {w w' : World} (h : Below w.heap.size w w') : KRf n0 w w' := ⟨h.size, fun b _ _ hb _ _ => (h.block b (lt_of_block hb)).trans hb, fun _ hn hb => hb.trans (h.mono hn)⟩
theorem KRf.trans {n0 : Nat} {u v w : World} (h : KRf n0 u v) (k : KRf n0 v w) : KRf n0 u w :=
  ⟨Nat.le_trans h.size k.size, fun b cs T hb h1 h2 => k.same b cs T (h.same b cs T hb h1 h2) h1 h2, fun a hn hb => k.bel a (Nat.le_trans hn h.size) (h.bel a hn hb)⟩
theorem KRf.only {n0 x : Nat} {w w' : World} {cs : Array Value} {T : TypeId} (h : w.heap[x]? = some (.cells cs T (0, 0))) (hT : T = 34 ∨ T = 77) (hx : n0 ≤ x) (ho : Only (· = x) w w') : KRf n0 w w' :=
  ⟨ho.size, fun b cs' T' hb h1 h2 => (ho.block b (lt_of_block hb) fun e => by
    rw [e, h] at hb
    simp only [Option.some.injEq, Obj.cells.injEq] at hb
    rcases hT with rfl | rfl
    · exact h1 hb.2.1.symm
    · exact h2 hb.2.1.symm).trans hb, fun _ hn hb => ho.below hb (fun y hy => hy ▸ hx) hn⟩

/-- Is a lease of this question one at t, by the reference? -/
def okQR (N : Nat) (q : RQ) (t ep : Int) : Prop := q.ep = ep ∧ mostV (N : Int) ≤ (q.told.length : Int) ∧ q.at_ ≤ t ∧ t < q.at_ + 20

theorem sub_in2 {t x : Int} (ht : Top t) (h0 : 0 ≤ x) (hx : x ≤ t) : IntKind.i64.wrap (t - x) = t - x := by
  have h := ht.le
  rw [IntKind.wrap_i64]
  omega
set_option maxRecDepth 100000 in
set_option maxHeartbeats 4000000 in
theorem qhvalid_r {w : World} {n0 rb N r : Nat} {sv : Value} {L : List RQ} (H : RHd w n0 rb N r sv L) (hl : L.length ≤ 4) (hN : N ≤ 5) (hA : ∀ q ∈ L, 0 ≤ q.at_) (t ep : Int) (ht : Top t) {R : Bool} (hR : (∃ i, ∃ (hi : i < L.length), okQR N L[i] t ep) ↔ R = true) :
    Calls Try.prog 19 #[.pointer (some ⟨rb, 0, none⟩), .int .i64 t, .int .i64 ep] w fun e w' => e = .returned (.bool R) ∧ Below w.heap.size w w' := by
  obtain ⟨a, cap, rfl⟩ := H.row.shape
  obtain ⟨m, hm⟩ : ∃ m, m = L.length := ⟨_, rfl⟩
  obtain ⟨M, hM⟩ : ∃ M, mostV (N : Int) = M := ⟨_, rfl⟩
  have HMO : Hid (∀ u, Calls Try.prog 43 #[.int .i64 N] u fun e w' => e = .returned (.int .i64 M) ∧ u = w') := fun u => rymost_r (N : Int) u (by omega) hM
  have HMM := Lib.hid hM
  have HH := Lib.hid H
  have HM := Lib.hid hm
  have HA := Lib.hid hA
  have HR := Lib.hid hR
  rw [← hm] at hl
  have HSV : Hid (∀ u, Below w.heap.size w u → u.cell? ⟨rb, 2, none⟩ = some (.slice a m cap)) := fun u hu => by rw [hm]; exact (HH.out.on hu).cells.1.2.2
  clear H hm hA hM hR
  go_enter Try.func19, Try.ntmps19
  go_wp2_with fail
  go_loopw [7] (fun s7 wr => ∃ i : Nat, i ≤ m ∧ s7 = .int .i64 i ∧ Hid (∀ j (hj : j < L.length), j < i → ¬ okQR N L[j] t ep) ∧ Hid (Below w.heap.size w wr)) (fun s7 _ => m - (intOf s7).toNat)
  case atStart => exact ⟨0, Nat.zero_le _, rfl, (fun j _ hj => absurd hj (by omega)), Below.refl _ _⟩
  case round =>
    obtain ⟨i, him, rfl, HNO, HB⟩ := hrel
    have cc2 := HSV.out _ HB.out
    by_cases hlt : i < m
    · have i1 : (i : Int) < (m : Int) := by omega
      have i0' : (0 : Int) ≤ (i : Int) := by omega
      have hiL : i < L.length := by rw [← HM.out]; exact hlt
      obtain ⟨g, off, cp, hsv, hgn, hgl, hgc, hel⟩ := QRow.some_ HH.out.row (by omega)
      rw [← HM.out] at hsv
      simp only [Value.slice.injEq] at hsv
      obtain ⟨rfl, _, rfl⟩ := hsv
      have on : ∀ j u, w.cell? ⟨g, j, none⟩ = some u → wr.cell? ⟨g, j, none⟩ = some u := fun j u h => (HB.out.cell (p := ⟨g, j, none⟩) hgl).trans h
      have e0 := on _ _ (hel i hiL).1.1
      have e1 := on _ _ (hel i hiL).1.2.1
      have e2 := on _ _ (hel i hiL).1.2.2.1
      have e3 := on _ _ (hel i hiL).1.2.2.2
      obtain ⟨q, hq⟩ : ∃ q, q = L[i] := ⟨_, rfl⟩
      rw [← hq] at e0 e1 e2 e3
      have hqL : q ∈ L := by rw [hq]; exact List.getElem_mem hiL
      have h0 := HA.out q hqL
      obtain ⟨ta, tc, hqv⟩ := (HH.out.tl q hqL).shape
      have HNX : Hid (¬ okQR N q t ep → ∀ j (hj : j < L.length), j < i + 1 → ¬ okQR N L[j] t ep) := fun hz j hj hji => by
        rcases (show j < i ∨ j = i by omega) with h | rfl
        · exact HNO.out j hj h
        · rw [← hq]; exact hz
      have HYX : Hid (okQR N q t ep → R = true) := fun hz => HR.out.1 ⟨i, hiL, by rw [← hq]; exact hz⟩
      have HLT := Lib.hid hlt
      clear hq hqL hel hgn hgl hgc on hiL hlt
      obtain ⟨qi, qa, qe, qv, qt⟩ := q
      dsimp only at e0 e1 e2 e3 hqv h0
      subst hqv
      obtain ⟨tn, htn⟩ : ∃ tn, tn = qt.length := ⟨_, rfl⟩
      rw [← htn] at e3
      have HOK : Hid (okQR N ⟨qi, qa, qe, .slice ta qt.length tc, qt⟩ t ep ↔ (qe = ep ∧ M ≤ (tn : Int) ∧ qa ≤ t ∧ t < qa + 20)) := by
        show _ ↔ _
        unfold okQR
        rw [HMM.out, htn]
      clear htn
      obtain ⟨o, ho⟩ : ∃ o, o = wr.heap.size := ⟨_, rfl⟩
      obtain ⟨W, hW⟩ : ∃ W, W = wr.alloc (.cells #[.int .i64 qi, .int .i64 qa, .int .i64 qe, .slice ta tn tc] 77) := ⟨_, rfl⟩
      have BW : Hid (Below w.heap.size w W) := by rw [hW]; exact HB.out.alloc HB.out.size _
      have h7 : W.heap[o]? = some (.cells #[.int .i64 qi, .int .i64 qa, .int .i64 qe, .slice ta tn tc] 77 (0, 0)) := by rw [hW, ho]; exact heap_alloc_new wr _
      have H7 := Lib.hid h7
      have FX : Hid (∀ u, Below W.heap.size W u → u.cell? ⟨o, 1, none⟩ = some (.int .i64 qa) ∧ u.cell? ⟨o, 2, none⟩ = some (.int .i64 qe) ∧ u.cell? ⟨o, 3, none⟩ = some (.slice ta tn tc) ∧ u.cell? ⟨rb, 0, none⟩ = some (.int .i64 N)) := fun u hu => by
        have h' := (hu.block o (lt_of_block H7.out)).trans H7.out
        refine ⟨?_, ?_, ?_, (HH.out.on (BW.out.trans (hu.mono BW.out.size))).cells.1.1⟩ <;> (rw [cell_of_row _ _ _ _ _ _ h']; rfl)
      have HWW := Lib.hid hW
      have HO := Lib.hid ho
      clear h7 ho hW HNO
      by_cases c1 : qe = ep
      · have d1 : (qe == ep) = true := by simpa using c1
        have C1 := Lib.hid c1
        clear c1
        by_cases c2 : M ≤ (tn : Int)
        · have d2 : decide (M ≤ (tn : Int)) = true := decide_eq_true c2
          have C2 := Lib.hid c2
          clear c2
          by_cases c3 : qa ≤ t
          · have d3 : decide (qa ≤ t) = true := decide_eq_true c3
            have C3 := Lib.hid c3
            have s1 : IntKind.i64.wrap (t - qa) = t - qa := sub_in2 ht h0 c3
            clear c3
            by_cases c4 : t - qa < 20
            · have d4 : decide (t - qa < 20) = true := decide_eq_true c4
              have HZ := Lib.hid (HYX.out (HOK.out.2 ⟨C1.out, C2.out, C3.out, by omega⟩))
              clear c4 HYX HNX HOK
              go_wp2_with fail
              rw [← HWW.out, ← HO.out]
              clear e0 e1 e2 e3 cc2
              refine region_quiet (fun v => Below W.heap.size W v) (by kernel_rfl) (by kernel_rfl) (Below.refl W.heap.size W).drew ?_
              repeat (first
                | go_big_quiet_skip
                | (go_big_quiet_want
                   (first
                    | (refine quiet_run (v := ?_) ?_ ?_; rotate_left; (intro u hu; obtain ⟨q1, q2, q3, q0⟩ := FX.out u hu; go_simp <;> with_reducible rfl); simp only [Act.put, List.setIfInBounds_toArray, List.set_cons_zero, List.set_cons_succ]; go_big_quiet_on)
                    | (refine quiet_enter 43 _ ?_ (fun u hu => (HMO.out u).mono fun e u' ⟨he, hb⟩ => ⟨he, hb ▸ hu⟩) ?_; (focus (intro u; first | (go_simp; done) | (go_simp; with_reducible rfl))); simp only [Act.put, List.setIfInBounds_toArray, List.set_cons_zero, List.set_cons_succ]; go_big_quiet_on))))
              refine wpQuiet_nil ?_
              intro w4 h4
              have HB4 := Lib.hid (BW.out.trans (h4.mono BW.out.size))
              clear h4
              clear d1 d2 d3 d4 s1
              go_wp2
              go_returns
              exact ⟨ret_bool HZ.out.symm, HB4.out⟩
            · have d4 : decide (t - qa < 20) = false := decide_eq_false c4
              have HZ := Lib.hid (HNX.out fun h => c4 (by have := (HOK.out.1 h).2.2.2; omega))
              clear c4 HYX HNX HOK
              go_wp2_with fail
              rw [← HWW.out, ← HO.out]
              clear e0 e1 e2 e3 cc2
              refine region_quiet (fun v => Below W.heap.size W v) (by kernel_rfl) (by kernel_rfl) (Below.refl W.heap.size W).drew ?_
              repeat (first
                | go_big_quiet_skip
                | (go_big_quiet_want
                   (first
                    | (refine quiet_run (v := ?_) ?_ ?_; rotate_left; (intro u hu; obtain ⟨q1, q2, q3, q0⟩ := FX.out u hu; go_simp <;> with_reducible rfl); simp only [Act.put, List.setIfInBounds_toArray, List.set_cons_zero, List.set_cons_succ]; go_big_quiet_on)
                    | (refine quiet_enter 43 _ ?_ (fun u hu => (HMO.out u).mono fun e u' ⟨he, hb⟩ => ⟨he, hb ▸ hu⟩) ?_; (focus (intro u; first | (go_simp; done) | (go_simp; with_reducible rfl))); simp only [Act.put, List.setIfInBounds_toArray, List.set_cons_zero, List.set_cons_succ]; go_big_quiet_on))))
              refine wpQuiet_nil ?_
              intro w4 h4
              have HB4 := Lib.hid (BW.out.trans (h4.mono BW.out.size))
              clear h4
              clear d1 d2 d3 d4 s1
              go_wp2
              go_roundw
              case rel => exact ⟨i + 1, by have := HLT.out; omega, by go_num, HZ.out, HB4.out⟩
              case measure => have := HLT.out; simp [intOf]; omega
          · have d3 : decide (qa ≤ t) = false := decide_eq_false c3
            have HZ := Lib.hid (HNX.out fun h => c3 (HOK.out.1 h).2.2.1)
            clear c3 HYX HNX HOK
            go_wp2_with fail
            rw [← HWW.out, ← HO.out]
            clear e0 e1 e2 e3 cc2
            refine region_quiet (fun v => Below W.heap.size W v) (by kernel_rfl) (by kernel_rfl) (Below.refl W.heap.size W).drew ?_
            repeat (first
              | go_big_quiet_skip
              | (go_big_quiet_want
                 (first
                  | (refine quiet_run (v := ?_) ?_ ?_; rotate_left; (intro u hu; obtain ⟨q1, q2, q3, q0⟩ := FX.out u hu; go_simp <;> with_reducible rfl); simp only [Act.put, List.setIfInBounds_toArray, List.set_cons_zero, List.set_cons_succ]; go_big_quiet_on)
                  | (refine quiet_enter 43 _ ?_ (fun u hu => (HMO.out u).mono fun e u' ⟨he, hb⟩ => ⟨he, hb ▸ hu⟩) ?_; (focus (intro u; first | (go_simp; done) | (go_simp; with_reducible rfl))); simp only [Act.put, List.setIfInBounds_toArray, List.set_cons_zero, List.set_cons_succ]; go_big_quiet_on))))
            refine wpQuiet_nil ?_
            intro w4 h4
            have HB4 := Lib.hid (BW.out.trans (h4.mono BW.out.size))
            clear h4
            clear d1 d2 d3
            go_wp2
            go_roundw
            case rel => exact ⟨i + 1, by have := HLT.out; omega, by go_num, HZ.out, HB4.out⟩
            case measure => have := HLT.out; simp [intOf]; omega
        · have d2 : decide (M ≤ (tn : Int)) = false := decide_eq_false c2
          have HZ := Lib.hid (HNX.out fun h => c2 (HOK.out.1 h).2.1)
          clear c2 HYX HNX HOK
          go_wp2_with fail
          rw [← HWW.out, ← HO.out]
          clear e0 e1 e2 e3 cc2
          refine region_quiet (fun v => Below W.heap.size W v) (by kernel_rfl) (by kernel_rfl) (Below.refl W.heap.size W).drew ?_
          repeat (first
            | go_big_quiet_skip
            | (go_big_quiet_want
               (first
                | (refine quiet_run (v := ?_) ?_ ?_; rotate_left; (intro u hu; obtain ⟨q1, q2, q3, q0⟩ := FX.out u hu; go_simp <;> with_reducible rfl); simp only [Act.put, List.setIfInBounds_toArray, List.set_cons_zero, List.set_cons_succ]; go_big_quiet_on)
                | (refine quiet_enter 43 _ ?_ (fun u hu => (HMO.out u).mono fun e u' ⟨he, hb⟩ => ⟨he, hb ▸ hu⟩) ?_; (focus (intro u; first | (go_simp; done) | (go_simp; with_reducible rfl))); simp only [Act.put, List.setIfInBounds_toArray, List.set_cons_zero, List.set_cons_succ]; go_big_quiet_on))))
          refine wpQuiet_nil ?_
          intro w4 h4
          have HB4 := Lib.hid (BW.out.trans (h4.mono BW.out.size))
          clear h4
          clear d1 d2
          go_wp2
          go_roundw
          case rel => exact ⟨i + 1, by have := HLT.out; omega, by go_num, HZ.out, HB4.out⟩
          case measure => have := HLT.out; simp [intOf]; omega
      · have d1 : (qe == ep) = false := by simpa using c1
        have HZ := Lib.hid (HNX.out fun h => c1 (HOK.out.1 h).1)
        clear c1 HYX HNX HOK
        go_wp2_with fail
        rw [← HWW.out, ← HO.out]
        clear e0 e1 e2 e3 cc2
        refine region_quiet (fun v => Below W.heap.size W v) (by kernel_rfl) (by kernel_rfl) (Below.refl W.heap.size W).drew ?_
        repeat (first
          | go_big_quiet_skip
          | (go_big_quiet_want
             (first
              | (refine quiet_run (v := ?_) ?_ ?_; rotate_left; (intro u hu; obtain ⟨q1, q2, q3, q0⟩ := FX.out u hu; go_simp <;> with_reducible rfl); simp only [Act.put, List.setIfInBounds_toArray, List.set_cons_zero, List.set_cons_succ]; go_big_quiet_on)
              | (refine quiet_enter 43 _ ?_ (fun u hu => (HMO.out u).mono fun e u' ⟨he, hb⟩ => ⟨he, hb ▸ hu⟩) ?_; (focus (intro u; first | (go_simp; done) | (go_simp; with_reducible rfl))); simp only [Act.put, List.setIfInBounds_toArray, List.set_cons_zero, List.set_cons_succ]; go_big_quiet_on))))
        refine wpQuiet_nil ?_
        intro w4 h4
        have HB4 := Lib.hid (BW.out.trans (h4.mono BW.out.size))
        clear h4
        clear d1
        go_wp2
        go_roundw
        case rel => exact ⟨i + 1, by have := HLT.out; omega, by go_num, HZ.out, HB4.out⟩
        case measure => have := HLT.out; simp [intOf]; omega
    · have hle : ¬ (i : Int) < (m : Int) := by omega
      have HX : Hid (R = false) := by
        show _ = _
        cases hr : R with
        | false => rfl
        | true =>
          obtain ⟨j, hj, h⟩ := HR.out.2 hr
          exact absurd h (HNO.out j hj (by have := HM.out; omega))
      go_wp2
      go_returns
      exact ⟨ret_bool HX.out.symm, HB.out⟩

/-! ### Lost -/
def clr (q : RQ) : RQ := ⟨q.id, q.at_, q.ep, .slice none 0 0, []⟩
def clrL (L : List RQ) : Nat → List RQ
  | 0 => L
  | i + 1 => if h : i < (clrL L i).length then (clrL L i).set i ⟨((clrL L i)[i]).id, ((clrL L i)[i]).at_, ((clrL L i)[i]).ep, .slice none 0 0, []⟩ else clrL L i
theorem clrL_len (L : List RQ) : ∀ i, (clrL L i).length = L.length
  | 0 => rfl
  | i + 1 => by
    unfold clrL
    split
    · rw [List.length_set, clrL_len L i]
    · exact clrL_len L i
theorem clrL_get (L : List RQ) : ∀ i j, (clrL L i)[j]? = if j < i then (L[j]?).map clr else L[j]?
  | 0, j => by simp [clrL]
  | i + 1, j => by
    have ih := clrL_get L i
    unfold clrL
    split
    · rename_i h
      by_cases e : i = j
      · subst e
        rw [List.getElem?_set_self h, if_pos (by omega)]
        have h1 := ih i
        rw [if_neg (by omega), List.getElem?_eq_getElem h] at h1
        rw [← h1]
        rfl
      · rw [List.getElem?_set_ne e, ih j]
        by_cases hj : j < i
        · rw [if_pos hj, if_pos (by omega)]
        · rw [if_neg hj, if_neg (by omega)]
    · rename_i h
      rw [ih j]
      by_cases hj : j < i
      · rw [if_pos hj, if_pos (by omega)]
      · rw [if_neg hj]
        have hn : L[j]? = none := List.getElem?_eq_none (by rw [clrL_len] at h; omega)
        rw [hn]
        simp

set_option maxRecDepth 100000 in
set_option maxHeartbeats 4000000 in
theorem qhlost_r {w : World} {n0 rb N r : Nat} {sv : Value} {L : List RQ} (H : RHd w n0 rb N r sv L) (hl : L.length ≤ 4) :
    Calls Try.prog 21 #[.pointer (some ⟨rb, 0, none⟩)] w fun e w' => e = .returned (.tuple #[]) ∧ RHd w' n0 rb N r sv (clrL L L.length) ∧ KRf n0 w w' := by
  obtain ⟨a, cap, rfl⟩ := H.row.shape
  obtain ⟨m, hm⟩ : ∃ m, m = L.length := ⟨_, rfl⟩
  rw [← hm] at H hl ⊢
  have HH := Lib.hid H
  have HM := Lib.hid hm
  clear H hm
  go_enter Try.func21, Try.ntmps21
  go_wp2_with fail
  go_loopw [2] (fun s2 wr => ∃ i : Nat, i ≤ m ∧ s2 = .int .i64 i ∧ Hid (RHd wr n0 rb N r (.slice a m cap) (clrL L i)) ∧ Hid (KRf n0 w wr)) (fun s2 _ => m - (intOf s2).toNat)
  case atStart => exact ⟨0, Nat.zero_le _, rfl, HH.out, KRf.of (Below.refl _ _)⟩
  case round =>
    clear HH
    obtain ⟨i, him, rfl, HR, HB⟩ := hrel
    have cc2 := HR.out.cells.1.2.2
    by_cases hlt : i < m
    · have i1 : (i : Int) < (m : Int) := by omega
      have i0' : (0 : Int) ≤ (i : Int) := by omega
      have hiL : i < (clrL L i).length := by rw [clrL_len, ← HM.out]; exact hlt
      obtain ⟨g, off, cp, hsv, hgn, hgl, ⟨cs, hgc⟩, hel⟩ := QRow.some_ HR.out.row (by omega)
      rw [clrL_len, ← HM.out] at hsv
      simp only [Value.slice.injEq] at hsv
      obtain ⟨rfl, _, rfl⟩ := hsv
      have e3 := (hel i hiL).1.2.2.2
      have f3 := (hel i hiL).2 (off + i * 4 + 3)
      generalize ((clrL L i)[i]'hiL).v = x3 at e3
      have HF := Lib.hid (tell_fin HR.out (by rw [clrL_len, ← HM.out]) hgc hiL (RowI.none wr))
      have HE : Hid (clrL L (i + 1) = (clrL L i).set i ⟨((clrL L i)[i]).id, ((clrL L i)[i]).at_, ((clrL L i)[i]).ep, .slice none 0 0, []⟩) := by
        show clrL L (i + 1) = _
        rw [clrL, dif_pos hiL]
      have HO := Lib.hid (HB.out.trans (KRf.only hgc (.inr rfl) hgn (Only.set g (off + i * 4 + 3) wr (.slice none 0 0))))
      clear hel hgn hgl hgc hlt
      go_wp2_with fail
      go_roundw
      case rel => exact ⟨i + 1, by omega, by go_num, by rw [HE.out]; exact HF.out, HO.out⟩
      case measure => simp [intOf]; omega
    · have hle : ¬ (i : Int) < (m : Int) := by omega
      obtain rfl : i = m := by omega
      go_wp2
      go_returns
      exact ⟨rfl, HR.out, HB.out⟩
end Go.Proofs.Ytomjlhmkmihbeaa
