/-
  THE REFERENCE's TABLE: Put where the key is there, and either way. Of at most five thousand keys.
-/
import Derived.Test.YtkieifkbkmdgdaaBookP
import Derived.Test.YtkieifkbkmdgdaaBookPB
namespace Go.Proofs.Ytkieifkbkmdgdaa
open Go.RowKit

theorem row_put {w : World} {base g m c i : Nat} {X : List Int} (h : w.ownsRow base 3 1 (.slice (some ⟨g, 0, none⟩) m c) m (intCells X)) (_ : i < m) (y : Int) : (w.setCell ⟨g, i, none⟩ (.int .i64 y)).ownsRow base 3 1 (.slice (some ⟨g, 0, none⟩) m c) m (intCells (X.set i y)) := by
  refine ⟨by have := h.1; simp [intCells] at this ⊢; exact this, ?_⟩
  rcases h.2 with ⟨e, _⟩ | ⟨g', cap, cur, e, hg, hh, h1, h2, h3, h4⟩
  · cases e
  · cases e
    refine .inr ⟨g, c, _, rfl, hg, heap_setCell_same _ _ _ _ _ _ hh, h1, h2, by simpa using h3, ?_⟩
    rw [Nat.mul_one] at h4 ⊢
    rw [Array.toList_setIfInBounds, List.take_set, h4]
    simp [intCells, List.map_set]

set_option maxRecDepth 100000 in
set_option maxHeartbeats 4000000 in
theorem rbput_had (n R : Nat) (L : List (Int × Int)) (key v y : Int) (w : World) (h : RB n w R L) (hr : Rise L) (hl : L.length ≤ 5000) (hget : getL key L = some y) :
    Calls Try.prog 9 #[.pointer (some ⟨R, 0, none⟩), .int .i64 key, .int .i64 v] w fun e w' => e = .returned (.tuple #[.int .i64 y, .bool true]) ∧ RB n w' R (putL key v L) ∧ Only (RS n w) w w' := by
  have KA := Lib.hid (at_any n R L key w h hl)
  have HH := Lib.hid h
  have HR := Lib.hid hr
  have HG := Lib.hid hget
  obtain ⟨vk, vv, h1, h2, h3, h4, h5⟩ := h
  obtain ⟨ak, ck, rfl, hck, _⟩ := row_of h3
  obtain ⟨av, cv, rfl, hcv, _⟩ := row_of h4
  have c0 : w.cell? ⟨R, 0, none⟩ = some (.slice ak L.length ck) := by simp [World.cell?, h1]
  have c1 : w.cell? ⟨R, 1, none⟩ = some (.slice av L.length cv) := by simp [World.cell?, h1]
  have H1 := Lib.hid h1
  have H2 := Lib.hid h2
  have H3 := Lib.hid h3
  have H4 := Lib.hid h4
  have H5 := Lib.hid h5
  obtain ⟨m, hm⟩ : ∃ m, m = L.length := ⟨_, rfl⟩
  rw [← hm] at H1 H3 H4 c0 c1 hck hcv hl
  have HM := Lib.hid hm
  clear h1 h2 h3 h4 h5 hm hr hget
  go_enter Try.func9, Try.ntmps9
  go_wp2_with fail
  refine KA.out.mono ?_
  rintro e w1 ⟨⟨i, rfl, hi⟩, q, hw⟩
  have hyes : i < m ∧ (keysL L).getD i 0 = key := by
    refine Classical.byContradiction fun hno => ?_
    have := (at_no (v := 0) HR.out hi fun h e => hno ⟨by rw [HM.out]; exact h, e⟩).1
    rw [HG.out] at this
    cases this
  obtain ⟨hlt, hk⟩ := hyes
  have HI' := Lib.hid hi
  have hO : Only (fun _ => False) w w1 := by rw [hw]; exact Only.drewN _ _ _
  have hil : i < L.length := by rw [← HM.out]; exact hlt
  have hsp := at_yes (key := key) hil hk
  obtain ⟨y', hy⟩ : ∃ y', y' = (valsL L).getD i 0 := ⟨_, rfl⟩
  rw [← hy] at hsp
  have hyy : y = y' := by
    have h0 := HR.out
    have h1 := HG.out
    rw [hsp] at h0 h1
    rw [getL_eq h0] at h1
    cases h1; rfl
  subst hyy
  have hput : putL key v L = L.take i ++ (key, v) :: L.drop (i + 1) := by
    have h := HR.out
    rw [hsp] at h
    have := putL_eq (v := v) h
    rwa [← hsp] at this
  have hks : keysL (putL key v L) = keysL L := by
    rw [hput]
    conv => rhs; rw [hsp]
    simp [keysL]
  have hvs : valsL (putL key v L) = (valsL L).set i v := by
    rw [hput]
    conv => rhs; rw [hsp]
    have : (valsL (L.take i)).length = i := by simp [valsL]; omega
    simp only [valsL, List.map_append, List.map_cons] at this ⊢
    rw [List.set_append_right _ _ (by omega), this, Nat.sub_self, List.set_cons_zero]
  have hlen : (putL key v L).length = m := by rw [hput, HM.out]; simp; omega
  have H11 : w1.heap[R]? = some (.cells #[.slice ak m ck, .slice av m cv] 28 (0, 0)) := by rw [hw]; exact H1.out
  have H31 : w1.ownsRow n 3 1 (.slice ak m ck) m (intCells (keysL L)) := row_only H3.out hO fun _ _ => id
  have H41 : w1.ownsRow n 3 1 (.slice av m cv) m (intCells (valsL L)) := row_only H4.out hO fun _ _ => id
  obtain ⟨g, rfl, hg, hgl, _, hcell⟩ := row_at H31 (by omega)
  obtain ⟨gv', rfl, hgv, hgvl, _, hcellv⟩ := row_at H41 (by omega)
  have cx : w1.cell? ⟨g, i, none⟩ = some (.int .i64 key) := by rw [← hk]; exact (hcell i hlt).1
  have cy : w1.cell? ⟨gv', i, none⟩ = some (.int .i64 y) := by rw [hy]; exact (hcellv i hlt).1
  have fy : w1.frozen? ⟨gv', i, none⟩ = false := (hcellv i hlt).2
  have d0 : w1.cell? ⟨R, 0, none⟩ = some (.slice (some ⟨g, 0, none⟩) m ck) := by rw [hw]; exact c0
  have d1 : w1.cell? ⟨R, 1, none⟩ = some (.slice (some ⟨gv', 0, none⟩) m cv) := by rw [hw]; exact c1
  have i0 : (0 : Int) ≤ (i : Int) := by omega
  have i1 : (i : Int) < (m : Int) := by omega
  have hgne : gv' ≠ g := by
    rcases H5.out with h | h
    · simp [Value.ownBlock] at h
    · intro e; apply h; rw [e]; rfl
  have hRS : RS n w gv' := by
    obtain ⟨_, _, _, _, _, hb⟩ := row_of H4.out
    obtain ⟨h1, cs, h2⟩ := hb gv' rfl
    exact ⟨h1, cs, _, h2, .inr rfl⟩
  have hgR : R ≠ gv' := by
    rintro rfl
    obtain ⟨_, _, _, _, _, hb⟩ := row_of H4.out
    obtain ⟨_, cs, h2⟩ := hb R rfl
    have := h2.symm.trans H1.out
    simp at this
  have FIN : Hid (RB n (w1.setCell ⟨gv', i, none⟩ (.int .i64 v)) R (putL key v L) ∧ Only (RS n w) w (w1.setCell ⟨gv', i, none⟩ (.int .i64 v))) := by
    refine ⟨⟨.slice (some ⟨g, 0, none⟩) m ck, .slice (some ⟨gv', 0, none⟩) m cv, ?_, H2.out, ?_, ?_, .inr (by simp [Value.ownBlock]; exact fun e => hgne e.symm)⟩, ?_⟩
    · exact ((Only.set gv' i w1 (.int .i64 v)).block R (lt_of_block H11) hgR).trans H11
    · rw [hlen, hks]
      refine row_only H31 (Only.set gv' i w1 (.int .i64 v)) fun x hx e => ?_
      simp [Value.ownBlock] at hx
      exact hgne (e.symm.trans hx.symm)
    · rw [hlen, hvs]
      exact row_put H41 hlt v
    · exact hO.nil.then (Only.set gv' i w1 (.int .i64 v)) fun x _ hx => hx ▸ hRS
  have HK : Hid ((key == key) = true) := by show _ = _; simp
  clear hw c0 c1 hi hO hsp hput hks hvs hlen H11 H31 H41 hcell hcellv hgne hRS hgR hy hk HG HR HH KA H1 H3 H4 H5
  go_wp2
  go_returns
  exact ⟨rfl, FIN.out⟩

theorem rbput_any (n R : Nat) (L : List (Int × Int)) (key v : Int) (w : World) (h : RB n w R L) (hnw : n ≤ w.heap.size) (hr : Rise L) (hl : L.length ≤ 5000) :
    Calls Try.prog 9 #[.pointer (some ⟨R, 0, none⟩), .int .i64 key, .int .i64 v] w fun e w' => e = .returned (.tuple #[.int .i64 (gv (getL key L)), .bool (getL key L).isSome]) ∧ RB n w' R (putL key v L) ∧ Only (RS n w) w w' := by
  cases hg : getL key L with
  | none => exact put_first n R L key v w h hr hl hg (put_rest n R L key v w h hnw)
  | some y => exact rbput_had n R L key v y w h hr hl hg
end Go.Proofs.Ytkieifkbkmdgdaa
