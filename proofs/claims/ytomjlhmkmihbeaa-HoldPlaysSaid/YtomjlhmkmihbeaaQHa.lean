/-
  THE REFERENCE's LEASE: Ask. Of at most four questions. Written by gen/XQHa.gen.py.
-/
import Derived.Test.YtomjlhmkmihbeaaQHv
import Derived.Test.YtomjlhmkmihbeaaChainS
namespace Go.Proofs.Ytomjlhmkmihbeaa
open Go.RowKit

theorem alloc_keepQ {w : World} {b : Nat} {o' : Obj} (o : Obj) (h : w.heap[b]? = some o') : (w.alloc o).heap[b]? = some o' := (Below.heap_alloc w o b (Array.getElem?_eq_some_iff.1 h).1).trans h
theorem srcQ {u : World} {p : Nat} {a b c : Int} (h : u.heap[p]? = some (.cells #[.int .i64 a, .int .i64 b, .int .i64 c, .slice none 0 0] 77 (0, 0))) : Src Try.prog 4 32 (.slice (some ⟨p, 0, none⟩) 1 1) 1 (rqs [⟨a, b, c, .slice none 0 0, []⟩]) u := by
  refine Src.ofSlice _ Try.underlying32 ⟨p, 0, none⟩ 1 1 (rqs [⟨a, b, c, .slice none 0 0, []⟩]) rfl (fun j x hj => ?_) (fun x hx => ?_)
  · rw [Addr.add_lit, cell_of_row _ _ _ _ _ _ h, Nat.zero_add]
    simpa [rqs, rqC] using hj
  · simp only [rqs, rqC, List.append_nil, List.mem_cons, List.not_mem_nil, or_false] at hx
    rcases hx with rfl | rfl | rfl | rfl <;> rfl
theorem rb_set {P : World} {rb N r : Nat} {sv : Value} (h : P.heap[rb]? = some (.cells #[.int .i64 N, .int .i64 ((r : Int) + 1), sv] 34 (0, 0))) (v : Value) : (P.setCell ⟨rb, 2, none⟩ v).heap[rb]? = some (.cells #[.int .i64 N, .int .i64 ((r : Int) + 1), v] 34 (0, 0)) := by
  rw [heap_setCell_same _ _ _ _ _ _ h]
  rfl
theorem rb_one {P : World} {rb N : Nat} {x : Int} {sv : Value} (h : P.heap[rb]? = some (.cells #[.int .i64 N, .int .i64 x, sv] 34 (0, 0))) : P.cell? ⟨rb, 1, none⟩ = some (.int .i64 x) := by rw [cell_of_row _ _ _ _ _ _ h]; rfl
theorem own_at {w w' : World} {b base : Nat} {e T : TypeId} {size n : Nat} {v : Value} {xs : List Value} {cs : Array Value} (hr : w.ownsRow base e size v n xs) (h : w.heap[b]? = some (.cells cs T (0, 0))) (hT : T ≠ e) (ho : Only (· = b) w w') : w'.ownsRow base e size v n xs := by
  refine ⟨hr.1, ?_⟩
  rcases hr.2 with h0 | ⟨g, cap, cur, rfl, hg, hh, h3⟩
  · exact .inl h0
  · refine .inr ⟨g, cap, cur, rfl, hg, (ho.block g (lt_of_block hh) (fun e' => ?_)).trans hh, h3⟩
    rw [e', h] at hh
    simp only [Option.some.injEq, Obj.cells.injEq] at hh
    exact hT hh.2.1
theorem row_of_own {u : World} {base n0 m : Nat} {g c : Nat} {L : List RQ} (hr : u.ownsRow base 77 4 (.slice (some ⟨g, 0, none⟩) m c) m (rqs L)) (hL : L.length = m) (hb : n0 ≤ base) : QRow u n0 (.slice (some ⟨g, 0, none⟩) m c) L := by
  subst hL
  rcases hr.2 with ⟨h, _⟩ | ⟨g', cap, cur, h1, h2, h3, h4, h5, h6, h7⟩
  · cases h
  · simp only [Value.slice.injEq, Option.some.injEq, Addr.mk.injEq] at h1
    obtain ⟨⟨rfl, _, _⟩, _, rfl⟩ := h1
    refine .inr ⟨g, 0, c, cur, rfl, by omega, h4, h5, h3, fun j x hx => ?_⟩
    have hj : j < L.length * 4 := by
      have := (List.getElem?_eq_some_iff.1 hx).1
      rwa [rqs_len] at this
    rw [← h7, List.getElem?_take, if_pos hj, Array.getElem?_toList] at hx
    rw [Nat.zero_add]
    exact hx
theorem row_of_tail {u : World} {base n0 m : Nat} {g c : Nat} {q : RQ} {L : List RQ} (hr : u.ownsRow base 77 4 (.slice (some ⟨g, 0, none⟩) (m + 1) c) (m + 1) (rqs (q :: L))) (hL : L.length = m) (hb : n0 ≤ base) : QRow u n0 (.slice (some ⟨g, 4, none⟩) m (c - 1)) L := by
  subst hL
  rcases hr.2 with ⟨h, _⟩ | ⟨g', cap, cur, h1, h2, h3, h4, h5, h6, h7⟩
  · cases h
  · simp only [Value.slice.injEq, Option.some.injEq, Addr.mk.injEq] at h1
    obtain ⟨⟨rfl, _, _⟩, _, rfl⟩ := h1
    refine .inr ⟨g, 4, c - 1, cur, rfl, by omega, by omega, by omega, h3, fun j x hx => ?_⟩
    have hj : j < L.length * 4 := by
      have := (List.getElem?_eq_some_iff.1 hx).1
      rwa [rqs_len] at this
    rw [rqs_drop q L j, ← h7, List.getElem?_take, if_pos (by omega), Array.getElem?_toList] at hx
    exact hx

theorem own_cap {u : World} {base n g c : Nat} {e : TypeId} {size : Nat} {xs : List Value} (hr : u.ownsRow base e size (.slice (some ⟨g, 0, none⟩) n c) n xs) : n ≤ c ∧ c ≤ maxLen := by
  rcases hr.2 with ⟨h, _⟩ | ⟨g', cap, cur, h1, h2, h3, h4, h5, h6, h7⟩
  · cases h
  · simp only [Value.slice.injEq] at h1
    obtain ⟨_, _, rfl⟩ := h1
    exact ⟨h4, h5⟩
/-- The questions behind one more. -/
def askL (L : List RQ) (q : RQ) : List RQ := if L.length + 1 ≤ 4 then L ++ [q] else (L ++ [q]).tail

set_option maxRecDepth 100000 in
set_option maxHeartbeats 8000000 in
theorem qhask_yes {w : World} {n0 rb N r : Nat} {sv : Value} {L : List RQ} (H : RHd w n0 rb N r sv L) (hr : r ≤ 1000000) (hl : L.length ≤ 4) (hn : n0 ≤ w.heap.size) (t ep : Int) (h : askR L t ep = true) :
    Calls Try.prog 17 #[.pointer (some ⟨rb, 0, none⟩), .int .i64 t, .int .i64 ep] w fun e w' => e = .returned (.int .i64 ((r : Int) + 1)) ∧ ∃ sv', RHd w' n0 rb N (r + 1) sv' (askL L ⟨(r : Int) + 1, t, ep, .slice none 0 0, []⟩) ∧ Only (· = rb) w w' := by
  obtain ⟨i0, hi, hz0, hz1, hz2⟩ := info_parts info_Q
  obtain ⟨⟨t0, t1⟩, ⟨e0, e1⟩, hlast⟩ := of_decide_eq_true h
  have d0 : decide (t < 0) = false := decide_eq_false (by omega)
  have d1 : decide (1099511627776 < t) = false := decide_eq_false (by omega)
  have d2 : decide (ep < 1) = false := decide_eq_false (by omega)
  have d3 : decide (1073741824 < ep) = false := decide_eq_false (by omega)
  obtain ⟨a, c, rfl⟩ := H.row.shape
  obtain ⟨m, hm⟩ : ∃ m, m = L.length := ⟨_, rfl⟩
  have HH := Lib.hid H
  rw [← hm] at HH hl
  have HM := Lib.hid hm
  have HNW := Lib.hid hn
  -- the world behind Last's store
  have HW : Hid (∀ w4, Below w.heap.size w w4 → (w4.cell? ⟨rb, 1, none⟩ = some (.int .i64 r) ∧ w4.frozen? ⟨rb, 1, none⟩ = false) ∧ ((w4.setCell ⟨rb, 1, none⟩ (.int .i64 ((r : Int) + 1))).heap[rb]? = some (.cells #[.int .i64 N, .int .i64 ((r : Int) + 1), .slice a m c] 34 (0, 0)) ∧ QRow (w4.setCell ⟨rb, 1, none⟩ (.int .i64 ((r : Int) + 1))) n0 (.slice a m c) L ∧ (∀ q ∈ L, RowI (w4.setCell ⟨rb, 1, none⟩ (.int .i64 ((r : Int) + 1))) q.v q.told) ∧ Only (· = rb) w (w4.setCell ⟨rb, 1, none⟩ (.int .i64 ((r : Int) + 1))) ∧ n0 ≤ (w4.setCell ⟨rb, 1, none⟩ (.int .i64 ((r : Int) + 1))).heap.size)) := fun w4 hb => by
    have h4 := HH.out.on hb
    have ho := Only.set rb 1 w4 (.int .i64 ((r : Int) + 1))
    refine ⟨⟨h4.cells.1.2.1, h4.cells.2.1⟩, ?_, QRow.keep h4.row fun g cs hg => (ho.block g (lt_of_block hg) (fun e => ?_)).trans hg, fun q hq => (h4.tl q hq).beside h4.blk (by decide) ho, (Only.of hb).trans ho, ?_⟩
    · rw [heap_setCell_same _ _ _ _ _ _ h4.blk]; rfl
    · rw [e, h4.blk] at hg
      simp at hg
    · have := ho.size
      have := hb.size
      have := HNW.out
      omega
  have HB4 := Lib.hid H.blk
  clear h t0 t1 e0 e1 hn
  go_enter Try.func17, Try.ntmps17
  go_wp2_with fail
  by_cases h0 : m = 0
  have d4 : decide (0 < m) = false := decide_eq_false (by omega)
  have FX : Hid (∀ u, Below w.heap.size w u → u.cell? ⟨rb, 2, none⟩ = some (.slice a m c)) := fun u hu => (HH.out.on hu).cells.1.2.2
  clear H hlast h0 hm
  refine region_quiet (fun v => Below w.heap.size w v) (by kernel_rfl) (by kernel_rfl) (Below.refl w.heap.size w).drew ?_
  repeat (first
    | go_big_quiet_skip
    | (go_big_quiet_want
       (refine quiet_run (v := ?_) ?_ ?_; rotate_left; (intro u hu; have c2 := FX.out u hu; go_simp <;> with_reducible rfl); simp only [Act.put, List.setIfInBounds_toArray, List.set_cons_zero, List.set_cons_succ]; go_big_quiet_on)))
  refine wpQuiet_nil ?_
  intro w4 h4
  have H4 := Lib.hid h4
  clear h4 FX
  clear d0 d1 d2 d3 d4
  rotate_left
  obtain ⟨k, hk⟩ : ∃ k, L.length = k + 1 := ⟨L.length - 1, by omega⟩
  have d4 : decide (0 < m) = true := decide_eq_true (by omega)
  obtain ⟨g, off, cap, hsv, _, hg, _, hc⟩ := QRow.some_ HH.out.row (by omega)
  rw [← hm] at hsv
  simp only [Value.slice.injEq] at hsv
  obtain ⟨rfl, _, rfl⟩ := hsv
  have a1 := (hc k (by omega)).1.2.1
  have hx := hlast _ (last_at hk)
  generalize (L[k]'(by omega)).at_ = x at a1 hx
  have d5 : decide (t < x) = false := decide_eq_false (by omega)
  have FX : Hid (∀ u, Below w.heap.size w u → u.cell? ⟨rb, 2, none⟩ = some (.slice (some ⟨g, off, none⟩) m c) ∧ u.cell? ⟨g, off + k * 4 + 1, none⟩ = some (.int .i64 x)) := fun u hu =>
    ⟨(HH.out.on hu).cells.1.2.2, (hu.cell (p := ⟨g, off + k * 4 + 1, none⟩) hg).trans a1⟩
  have k0 : (0 : Int) ≤ (k : Int) := by omega
  have k2 : (k : Int) < (m : Int) := by omega
  have s1 : IntKind.i64.wrap ((m : Int) - 1) = (k : Int) := by rw [IntKind.wrap_i64]; omega
  clear H hlast h0 hc a1 hk hm hg hx
  refine region_quiet (fun v => Below w.heap.size w v) (by kernel_rfl) (by kernel_rfl) (Below.refl w.heap.size w).drew ?_
  repeat (first
    | go_big_quiet_skip
    | (go_big_quiet_want
       (refine quiet_run (v := ?_) ?_ ?_; rotate_left; (intro u hu; obtain ⟨c2, a1⟩ := FX.out u hu; go_simp <;> with_reducible rfl); simp only [Act.put, List.setIfInBounds_toArray, List.set_cons_zero, List.set_cons_succ]; go_big_quiet_on)))
  refine wpQuiet_nil ?_
  intro w4 h4
  have H4 := Lib.hid h4
  clear k0 k2 s1 h4 FX
  clear d0 d1 d2 d3 d4 d5
  rotate_left
  all_goals
    obtain ⟨⟨g1, g2⟩, hblk, hrow, htl, hO, hnW⟩ := HW.out _ H4.out
    have HBLK := Lib.hid hblk
    have HROW := Lib.hid hrow
    have HTL := Lib.hid htl
    have HO := Lib.hid hO
    have HNN := Lib.hid hnW
    clear hblk hrow htl hO hnW HW HB4
    go_wp2_with fail
    clear g1 g2 H4
    generalize w4.setCell ⟨rb, 1, none⟩ (.int .i64 ((r : Int) + 1)) = W at HBLK HROW HTL HO HNN ⊢
    have HRB := Lib.hid (lt_of_block HBLK.out)
    have HBK : Hid (∀ u, Below W.heap.size W u → u.heap[rb]? = some (.cells #[.int .i64 N, .int .i64 ((r : Int) + 1), _] 34 (0, 0))) := fun u hu => (hu.block rb HRB.out).trans HBLK.out
    have HS : Hid (∀ u, Below W.heap.size W u → (fun u => u.cell? ⟨rb, 1, none⟩ = some (.int .i64 ((r : Int) + 1))) u) := fun u hu => rb_one (HBK.out u hu)
    have HLD : Hid (∀ u, Below W.heap.size W u → u.cell? ⟨rb, 2, none⟩ = some _) := fun u hu => by rw [cell_of_row _ _ _ _ _ _ (HBK.out u hu)]; rfl
    have HFZ : Hid (∀ u, Below W.heap.size W u → u.frozen? ⟨rb, 2, none⟩ = false) := fun u hu => by have h := HBK.out u hu; simp [World.frozen?, h]
    have HSA : Hid (∀ u, Below W.heap.size W u → Src Try.prog 4 32 _ m (rqs L) u) := fun u hu => by
      rw [HM.out]
      exact (QRow.on HROW.out hu).src (fun q hq => (HTL.out q hq).on hu)
    go_cut [0] (fun s0 wc => s0 = .pointer (some ⟨rb, 0, none⟩) ∧ ∃ (g3 : Nat) (c3 : Nat), Hid (wc.heap[rb]? = some (.cells #[.int .i64 N, .int .i64 ((r : Int) + 1), .slice (some ⟨g3, 0, none⟩) (m + 1) c3] 34 (0, 0))) ∧ Hid (wc.ownsRow W.heap.size 77 4 (.slice (some ⟨g3, 0, none⟩) (m + 1) c3) (m + 1) (rqs L ++ rqs [⟨(r : Int) + 1, t, ep, .slice none 0 0, []⟩])) ∧ Hid (Only (· = rb) W wc))
    case first =>
      refine wp_region_held_drew (S := (fun u => u.cell? ⟨rb, 1, none⟩ = some (.int .i64 ((r : Int) + 1)))) (by kernel_rfl) (HS.out _ (Below.refl W.heap.size W).drew) (fun hHeld => ?_)
      first
        | (refine held_take 0 53 (v := ?_) rfl rfl (by kernel_rfl) (by kernel_rfl) (by kernel_rfl) (fun _ _ _ h => h) (by assumption) (by rfl) ?_ ?_; rotate_left; (focus (intro w hSw; (try dsimp only at hSw); go_simp <;> with_reducible rfl)))
        | refine held_pass 0 53 rfl rfl (by kernel_rfl) (by kernel_rfl) (by kernel_rfl) (fun _ _ _ h => h) (by assumption) (by rfl) ?_
      simp only [Act.put, List.setIfInBounds_toArray, List.set_cons_zero, List.set_cons_succ]
      first
        | (refine held_take 2 55 (v := ?_) rfl rfl (by kernel_rfl) (by kernel_rfl) (by kernel_rfl) (fun _ _ _ h => h) (by assumption) (by rfl) ?_ ?_; rotate_left; (focus (intro w hSw; (try dsimp only at hSw); go_simp <;> with_reducible rfl)))
        | refine held_pass 2 55 rfl rfl (by kernel_rfl) (by kernel_rfl) (by kernel_rfl) (fun _ _ _ h => h) (by assumption) (by rfl) ?_
      simp only [Act.put, List.setIfInBounds_toArray, List.set_cons_zero, List.set_cons_succ]
      first
        | (refine held_take 3 56 (v := ?_) rfl rfl (by kernel_rfl) (by kernel_rfl) (by kernel_rfl) (fun _ _ _ h => h) (by assumption) (by rfl) ?_ ?_; rotate_left; (focus (intro w hSw; (try dsimp only at hSw); go_simp <;> with_reducible rfl)))
        | refine held_pass 3 56 rfl rfl (by kernel_rfl) (by kernel_rfl) (by kernel_rfl) (fun _ _ _ h => h) (by assumption) (by rfl) ?_
      simp only [Act.put, List.setIfInBounds_toArray, List.set_cons_zero, List.set_cons_succ]
      first
        | (refine held_take 4 57 (v := ?_) rfl rfl (by kernel_rfl) (by kernel_rfl) (by kernel_rfl) (fun _ _ _ h => h) (by assumption) (by rfl) ?_ ?_; rotate_left; (focus (intro w hSw; (try dsimp only at hSw); go_simp <;> with_reducible rfl)))
        | refine held_pass 4 57 rfl rfl (by kernel_rfl) (by kernel_rfl) (by kernel_rfl) (fun _ _ _ h => h) (by assumption) (by rfl) ?_
      simp only [Act.put, List.setIfInBounds_toArray, List.set_cons_zero, List.set_cons_succ]
      first
        | (refine held_take 7 60 (v := ?_) rfl rfl (by kernel_rfl) (by kernel_rfl) (by kernel_rfl) (fun _ _ _ h => h) (by assumption) (by rfl) ?_ ?_; rotate_left; (focus (intro w hSw; (try dsimp only at hSw); go_simp <;> with_reducible rfl)))
        | refine held_pass 7 60 rfl rfl (by kernel_rfl) (by kernel_rfl) (by kernel_rfl) (fun _ _ _ h => h) (by assumption) (by rfl) ?_
      simp only [Act.put, List.setIfInBounds_toArray, List.set_cons_zero, List.set_cons_succ]
      first
        | (refine held_take 8 61 (v := ?_) rfl rfl (by kernel_rfl) (by kernel_rfl) (by kernel_rfl) (fun _ _ _ h => h) (by assumption) (by rfl) ?_ ?_; rotate_left; (focus (intro w hSw; (try dsimp only at hSw); go_simp <;> with_reducible rfl)))
        | refine held_pass 8 61 rfl rfl (by kernel_rfl) (by kernel_rfl) (by kernel_rfl) (fun _ _ _ h => h) (by assumption) (by rfl) ?_
      simp only [Act.put, List.setIfInBounds_toArray, List.set_cons_zero, List.set_cons_succ]
      first
        | (refine held_take 9 62 (v := ?_) rfl rfl (by kernel_rfl) (by kernel_rfl) (by kernel_rfl) (fun _ _ _ h => h) (by assumption) (by rfl) ?_ ?_; rotate_left; (focus (intro w hSw; (try dsimp only at hSw); go_simp <;> with_reducible rfl)))
        | refine held_pass 9 62 rfl rfl (by kernel_rfl) (by kernel_rfl) (by kernel_rfl) (fun _ _ _ h => h) (by assumption) (by rfl) ?_
      simp only [Act.put, List.setIfInBounds_toArray, List.set_cons_zero, List.set_cons_succ]
      first
        | (refine held_take 10 63 (v := ?_) rfl rfl (by kernel_rfl) (by kernel_rfl) (by kernel_rfl) (fun _ _ _ h => h) (by assumption) (by rfl) ?_ ?_; rotate_left; (focus (intro w hSw; (try dsimp only at hSw); go_simp <;> with_reducible rfl)))
        | refine held_pass 10 63 rfl rfl (by kernel_rfl) (by kernel_rfl) (by kernel_rfl) (fun _ _ _ h => h) (by assumption) (by rfl) ?_
      simp only [Act.put, List.setIfInBounds_toArray, List.set_cons_zero, List.set_cons_succ]
      first
        | (refine held_take 11 64 (v := ?_) rfl rfl (by kernel_rfl) (by kernel_rfl) (by kernel_rfl) (fun _ _ _ h => h) (by assumption) (by rfl) ?_ ?_; rotate_left; (focus (intro w hSw; (try dsimp only at hSw); go_simp <;> with_reducible rfl)))
        | refine held_pass 11 64 rfl rfl (by kernel_rfl) (by kernel_rfl) (by kernel_rfl) (fun _ _ _ h => h) (by assumption) (by rfl) ?_
      simp only [Act.put, List.setIfInBounds_toArray, List.set_cons_zero, List.set_cons_succ]
      first
        | (refine held_take 12 65 (v := ?_) rfl rfl (by kernel_rfl) (by kernel_rfl) (by kernel_rfl) (fun _ _ _ h => h) (by assumption) (by rfl) ?_ ?_; rotate_left; (focus (intro w hSw; (try dsimp only at hSw); go_simp <;> with_reducible rfl)))
        | refine held_pass 12 65 rfl rfl (by kernel_rfl) (by kernel_rfl) (by kernel_rfl) (fun _ _ _ h => h) (by assumption) (by rfl) ?_
      simp only [Act.put, List.setIfInBounds_toArray, List.set_cons_zero, List.set_cons_succ]
      first
        | (refine held_take 13 66 (v := ?_) rfl rfl (by kernel_rfl) (by kernel_rfl) (by kernel_rfl) (fun _ _ _ h => h) (by assumption) (by rfl) ?_ ?_; rotate_left; (focus (intro w hSw; (try dsimp only at hSw); go_simp <;> with_reducible rfl)))
        | refine held_pass 13 66 rfl rfl (by kernel_rfl) (by kernel_rfl) (by kernel_rfl) (fun _ _ _ h => h) (by assumption) (by rfl) ?_
      simp only [Act.put, List.setIfInBounds_toArray, List.set_cons_zero, List.set_cons_succ]
      obtain ⟨u0, hN⟩ : ∃ u, u = W.drew := ⟨_, rfl⟩
      rw [← hN] at hHeld ⊢
      have Bu0 : Hid (Below W.heap.size W u0) := by rw [hN]; exact (Below.refl W.heap.size W).drew
      clear hN
      refine wpAnyH_ready (rs := [1, 5, 14]) (by kernel_rfl) (by simp) (AllReadyH.cons rfl (fun K hK => ?_) (AllReadyH.cons rfl (fun K hK => ?_) (AllReadyH.cons rfl (fun K hK => ?_) AllReadyH.nil)))
      · try simp only [Go.wp_at_succ, Go.wp_at_zero]
        go_simp
        refine hK.out _ _ (HS.out _ (Bu0.out.alloc Bu0.out.size _)) (fun hHeld => ?_)
        clear hK K
        try simp only [Act.put, List.setIfInBounds_toArray, List.set_cons_zero, List.set_cons_succ]
        obtain ⟨u1, hN⟩ : ∃ u, u = u0.alloc (.cells #[] 77) := ⟨_, rfl⟩
        rw [← hN] at hHeld ⊢
        have Bu1 : Hid (Below W.heap.size W u1) := by rw [hN]; exact Bu0.out.alloc Bu0.out.size _
        have Eu1 : Hid (u1.heap[u0.heap.size]? = some (.cells #[] 77 (0, 0))) := by rw [hN]; exact heap_alloc_new u0 _
        clear hN
        refine wpAnyH_ready (rs := [5, 14]) (by kernel_rfl) (by simp) (AllReadyH.cons rfl (fun K hK => ?_) (AllReadyH.cons rfl (fun K hK => ?_) AllReadyH.nil))
        · try simp only [Go.wp_at_succ, Go.wp_at_zero]
          have hl := HLD.out _ Bu1.out
          go_simp
          refine hK.out _ _ (HS.out _ Bu1.out) (fun hHeld => ?_)
          clear hK K hl
          try simp only [Act.put, List.setIfInBounds_toArray, List.set_cons_zero, List.set_cons_succ]
          refine wpAnyH_ready (rs := [6, 14]) (by kernel_rfl) (by simp) (AllReadyH.cons rfl (fun K hK => ?_) (AllReadyH.cons rfl (fun K hK => ?_) AllReadyH.nil))
          · have HRu : Hid (u1.ownsRow W.heap.size 77 4 (.slice (some ⟨u0.heap.size, 0, none⟩) 0 0) 0 []) := ⟨rfl, .inr ⟨u0.heap.size, 0, #[], rfl, Bu0.out.size, Eu1.out, Nat.le_refl _, Nat.zero_le _, rfl, rfl⟩⟩
            refine stepApp rfl (.tmp 54) (.tmp 58) 32 32 rfl W.heap.size 77 i0 (.agg #[.int .i64 0, .int .i64 0, .int .i64 0, .slice none 0 0]) 4 48 Try.underlying32 hi hz0 hz1 hz2 rfl (.slice (some ⟨u0.heap.size, 0, none⟩) 0 0) _ _ rfl HRu.out _ m (rqs L) rfl (HSA.out _ Bu1.out) ?c3 ?c4 ?c5 ?_
            case c3 => unfold maxLen; omega
            case c4 => omega
            case c5 => exact Bu1.out.size
            intro vu2 u2 O G
            have Bu2 : Hid (Below W.heap.size W u2) := Bu1.out.grown G Bu1.out.size (fun y hy => (HRu.out.lt y hy).1)
            rw [Nat.zero_add, List.nil_append] at O
            obtain ⟨au2, cu2, rfl⟩ := own_shape O
            have Ru2 := Lib.hid O
            clear O G
            refine hK.out _ _ (HS.out _ Bu2.out) (fun hHeld => ?_)
            clear hK K
            try simp only [Act.put]
            try simp only [List.setIfInBounds_toArray]
            refine wpAnyH_ready (rs := [14]) (by kernel_rfl) (by simp) (AllReadyH.cons rfl (fun K hK => ?_) AllReadyH.nil)
            try simp only [Go.wp_at_succ, Go.wp_at_zero]
            go_simp
            refine hK.out _ _ (HS.out _ (Bu2.out.alloc Bu2.out.size _)) (fun hHeld => ?_)
            clear hK K
            try simp only [Act.put, List.setIfInBounds_toArray, List.set_cons_zero, List.set_cons_succ]
            obtain ⟨u3, hN⟩ : ∃ u, u = u2.alloc (.cells #[.int .i64 ((r : Int) + 1), .int .i64 t, .int .i64 ep, .slice none 0 0] 77) := ⟨_, rfl⟩
            rw [← hN] at hHeld ⊢
            have Bu3 : Hid (Below W.heap.size W u3) := by rw [hN]; exact Bu2.out.alloc Bu2.out.size _
            have Xu3 : Hid (u3.heap[u2.heap.size]? = some (.cells #[.int .i64 ((r : Int) + 1), .int .i64 t, .int .i64 ep, .slice none 0 0] 77 (0, 0))) := by rw [hN]; exact heap_alloc_new u2 _
            have Ru3 := Lib.hid (Ru2.out.alloc (.cells #[.int .i64 ((r : Int) + 1), .int .i64 t, .int .i64 ep, .slice none 0 0] 77))
            rw [← hN] at Ru3
            clear hN
            refine wpAnyH_ready (rs := [15]) (by kernel_rfl) (by simp) (AllReadyH.cons rfl (fun K hK => ?_) AllReadyH.nil)
            refine stepApp rfl (.tmp 59) (.tmp 67) 32 32 rfl W.heap.size 77 i0 (.agg #[.int .i64 0, .int .i64 0, .int .i64 0, .slice none 0 0]) 4 48 Try.underlying32 hi hz0 hz1 hz2 rfl (.slice au2 m cu2) _ _ rfl Ru3.out _ 1 (rqs [⟨(r : Int) + 1, t, ep, .slice none 0 0, []⟩]) rfl (srcQ Xu3.out) ?c3 ?c4 ?c5 ?_
            case c3 => unfold maxLen; omega
            case c4 => omega
            case c5 => exact Bu3.out.size
            intro vu4 u4 O G
            have Bu4 : Hid (Below W.heap.size W u4) := Bu3.out.grown G Bu3.out.size (fun y hy => (Ru3.out.lt y hy).1)
            obtain ⟨au4, cu4, rfl⟩ := ownsRow_succ O
            have Ru4 := Lib.hid O
            clear O G
            refine hK.out _ _ (HS.out _ Bu4.out) (fun hHeld => ?_)
            clear hK K
            try simp only [Act.put]
            try simp only [List.setIfInBounds_toArray]
            first
              | (refine held_take 16 69 (v := ?_) rfl rfl (by kernel_rfl) (by kernel_rfl) (by kernel_rfl) (fun _ _ _ h => h) (by assumption) (by rfl) ?_ ?_; rotate_left; (focus (intro w hSw; (try dsimp only at hSw); go_simp <;> with_reducible rfl)))
              | refine held_pass 16 69 rfl rfl (by kernel_rfl) (by kernel_rfl) (by kernel_rfl) (fun _ _ _ h => h) (by assumption) (by rfl) ?_
            try simp only [Act.put]
            try simp only [List.setIfInBounds_toArray]
            first
              | (refine held_take 17 70 (v := ?_) rfl rfl (by kernel_rfl) (by kernel_rfl) (by kernel_rfl) (fun _ _ _ h => h) (by assumption) (by rfl) ?_ ?_; rotate_left; (focus (intro w hSw; (try dsimp only at hSw); go_simp <;> with_reducible rfl)))
              | refine held_pass 17 70 rfl rfl (by kernel_rfl) (by kernel_rfl) (by kernel_rfl) (fun _ _ _ h => h) (by assumption) (by rfl) ?_
            try simp only [Act.put]
            try simp only [List.setIfInBounds_toArray]
            have hcell := HLD.out _ Bu4.out
            have hfz := HFZ.out _ Bu4.out
            have hbk := HBK.out _ Bu4.out
            refine wpAnyH_ready (rs := [18]) (by kernel_rfl) (by simp) (AllReadyH.cons rfl (fun K hK => ?_) AllReadyH.nil)
            try simp only [Go.wp_at_succ, Go.wp_at_zero]
            go_simp
            have K1 := Lib.hid (rb_set hbk (.slice (some ⟨au4, 0, none⟩) (m + 1) cu4))
            have K2 := Lib.hid (own_at Ru4.out hbk (by decide) (Only.set rb 2 u4 (.slice (some ⟨au4, 0, none⟩) (m + 1) cu4)))
            have K3 := Lib.hid ((Only.of (S := fun k => k = rb) Bu4.out).trans (Only.set rb 2 u4 (.slice (some ⟨au4, 0, none⟩) (m + 1) cu4)))
            clear hcell hfz hbk
            refine hK.out _ _ (rb_one K1.out) (fun hHeld => ?_)
            clear hK K
            try simp only [Act.put]
            refine wpAnyH_done (by kernel_rfl) ?_ _
            go_wp2
            go_meet
            case rel => exact ⟨rfl, _, _, K1.out, K2.out, K3.out⟩
          · try simp only [Go.wp_at_succ, Go.wp_at_zero]
            go_simp
            refine hK.out _ _ (HS.out _ (Bu1.out.alloc Bu1.out.size _)) (fun hHeld => ?_)
            clear hK K
            try simp only [Act.put, List.setIfInBounds_toArray, List.set_cons_zero, List.set_cons_succ]
            obtain ⟨u2, hN⟩ : ∃ u, u = u1.alloc (.cells #[.int .i64 ((r : Int) + 1), .int .i64 t, .int .i64 ep, .slice none 0 0] 77) := ⟨_, rfl⟩
            rw [← hN] at hHeld ⊢
            have Bu2 : Hid (Below W.heap.size W u2) := by rw [hN]; exact Bu1.out.alloc Bu1.out.size _
            have Eu2 : Hid (u2.heap[u0.heap.size]? = some (.cells #[] 77 (0, 0))) := by rw [hN]; exact alloc_keepQ _ Eu1.out
            have Xu2 : Hid (u2.heap[u1.heap.size]? = some (.cells #[.int .i64 ((r : Int) + 1), .int .i64 t, .int .i64 ep, .slice none 0 0] 77 (0, 0))) := by rw [hN]; exact heap_alloc_new u1 _
            clear hN
            refine wpAnyH_ready (rs := [6]) (by kernel_rfl) (by simp) (AllReadyH.cons rfl (fun K hK => ?_) AllReadyH.nil)
            have HRu : Hid (u2.ownsRow W.heap.size 77 4 (.slice (some ⟨u0.heap.size, 0, none⟩) 0 0) 0 []) := ⟨rfl, .inr ⟨u0.heap.size, 0, #[], rfl, Bu0.out.size, Eu2.out, Nat.le_refl _, Nat.zero_le _, rfl, rfl⟩⟩
            refine stepApp rfl (.tmp 54) (.tmp 58) 32 32 rfl W.heap.size 77 i0 (.agg #[.int .i64 0, .int .i64 0, .int .i64 0, .slice none 0 0]) 4 48 Try.underlying32 hi hz0 hz1 hz2 rfl (.slice (some ⟨u0.heap.size, 0, none⟩) 0 0) _ _ rfl HRu.out _ m (rqs L) rfl (HSA.out _ Bu2.out) ?c3 ?c4 ?c5 ?_
            case c3 => unfold maxLen; omega
            case c4 => omega
            case c5 => exact Bu2.out.size
            intro vu3 u3 O G
            have Bu3 : Hid (Below W.heap.size W u3) := Bu2.out.grown G Bu2.out.size (fun y hy => (HRu.out.lt y hy).1)
            rw [Nat.zero_add, List.nil_append] at O
            have Xu3 : Hid (u3.heap[u1.heap.size]? = some (.cells #[.int .i64 ((r : Int) + 1), .int .i64 t, .int .i64 ep, .slice none 0 0] 77 (0, 0))) := (G.block _ (Array.getElem?_eq_some_iff.1 Xu2.out).1 (fun e => by have h := Xu2.out.symm.trans (show u2.heap[u1.heap.size]? = some (.cells #[] 77 (0, 0)) from by rw [show u1.heap.size = u0.heap.size by simpa [Value.ownBlock] using e]; exact Eu2.out); simp at h)).trans Xu2.out
            obtain ⟨au3, cu3, rfl⟩ := own_shape O
            have Ru3 := Lib.hid O
            clear O G
            refine hK.out _ _ (HS.out _ Bu3.out) (fun hHeld => ?_)
            clear hK K
            try simp only [Act.put]
            try simp only [List.setIfInBounds_toArray]
            refine wpAnyH_ready (rs := [15]) (by kernel_rfl) (by simp) (AllReadyH.cons rfl (fun K hK => ?_) AllReadyH.nil)
            refine stepApp rfl (.tmp 59) (.tmp 67) 32 32 rfl W.heap.size 77 i0 (.agg #[.int .i64 0, .int .i64 0, .int .i64 0, .slice none 0 0]) 4 48 Try.underlying32 hi hz0 hz1 hz2 rfl (.slice au3 m cu3) _ _ rfl Ru3.out _ 1 (rqs [⟨(r : Int) + 1, t, ep, .slice none 0 0, []⟩]) rfl (srcQ Xu3.out) ?c3 ?c4 ?c5 ?_
            case c3 => unfold maxLen; omega
            case c4 => omega
            case c5 => exact Bu3.out.size
            intro vu4 u4 O G
            have Bu4 : Hid (Below W.heap.size W u4) := Bu3.out.grown G Bu3.out.size (fun y hy => (Ru3.out.lt y hy).1)
            obtain ⟨au4, cu4, rfl⟩ := ownsRow_succ O
            have Ru4 := Lib.hid O
            clear O G
            refine hK.out _ _ (HS.out _ Bu4.out) (fun hHeld => ?_)
            clear hK K
            try simp only [Act.put]
            try simp only [List.setIfInBounds_toArray]
            first
              | (refine held_take 16 69 (v := ?_) rfl rfl (by kernel_rfl) (by kernel_rfl) (by kernel_rfl) (fun _ _ _ h => h) (by assumption) (by rfl) ?_ ?_; rotate_left; (focus (intro w hSw; (try dsimp only at hSw); go_simp <;> with_reducible rfl)))
              | refine held_pass 16 69 rfl rfl (by kernel_rfl) (by kernel_rfl) (by kernel_rfl) (fun _ _ _ h => h) (by assumption) (by rfl) ?_
            try simp only [Act.put]
            try simp only [List.setIfInBounds_toArray]
            first
              | (refine held_take 17 70 (v := ?_) rfl rfl (by kernel_rfl) (by kernel_rfl) (by kernel_rfl) (fun _ _ _ h => h) (by assumption) (by rfl) ?_ ?_; rotate_left; (focus (intro w hSw; (try dsimp only at hSw); go_simp <;> with_reducible rfl)))
              | refine held_pass 17 70 rfl rfl (by kernel_rfl) (by kernel_rfl) (by kernel_rfl) (fun _ _ _ h => h) (by assumption) (by rfl) ?_
            try simp only [Act.put]
            try simp only [List.setIfInBounds_toArray]
            have hcell := HLD.out _ Bu4.out
            have hfz := HFZ.out _ Bu4.out
            have hbk := HBK.out _ Bu4.out
            refine wpAnyH_ready (rs := [18]) (by kernel_rfl) (by simp) (AllReadyH.cons rfl (fun K hK => ?_) AllReadyH.nil)
            try simp only [Go.wp_at_succ, Go.wp_at_zero]
            go_simp
            have K1 := Lib.hid (rb_set hbk (.slice (some ⟨au4, 0, none⟩) (m + 1) cu4))
            have K2 := Lib.hid (own_at Ru4.out hbk (by decide) (Only.set rb 2 u4 (.slice (some ⟨au4, 0, none⟩) (m + 1) cu4)))
            have K3 := Lib.hid ((Only.of (S := fun k => k = rb) Bu4.out).trans (Only.set rb 2 u4 (.slice (some ⟨au4, 0, none⟩) (m + 1) cu4)))
            clear hcell hfz hbk
            refine hK.out _ _ (rb_one K1.out) (fun hHeld => ?_)
            clear hK K
            try simp only [Act.put]
            refine wpAnyH_done (by kernel_rfl) ?_ _
            go_wp2
            go_meet
            case rel => exact ⟨rfl, _, _, K1.out, K2.out, K3.out⟩
        · try simp only [Go.wp_at_succ, Go.wp_at_zero]
          go_simp
          refine hK.out _ _ (HS.out _ (Bu1.out.alloc Bu1.out.size _)) (fun hHeld => ?_)
          clear hK K
          try simp only [Act.put, List.setIfInBounds_toArray, List.set_cons_zero, List.set_cons_succ]
          obtain ⟨u2, hN⟩ : ∃ u, u = u1.alloc (.cells #[.int .i64 ((r : Int) + 1), .int .i64 t, .int .i64 ep, .slice none 0 0] 77) := ⟨_, rfl⟩
          rw [← hN] at hHeld ⊢
          have Bu2 : Hid (Below W.heap.size W u2) := by rw [hN]; exact Bu1.out.alloc Bu1.out.size _
          have Eu2 : Hid (u2.heap[u0.heap.size]? = some (.cells #[] 77 (0, 0))) := by rw [hN]; exact alloc_keepQ _ Eu1.out
          have Xu2 : Hid (u2.heap[u1.heap.size]? = some (.cells #[.int .i64 ((r : Int) + 1), .int .i64 t, .int .i64 ep, .slice none 0 0] 77 (0, 0))) := by rw [hN]; exact heap_alloc_new u1 _
          clear hN
          refine wpAnyH_ready (rs := [5]) (by kernel_rfl) (by simp) (AllReadyH.cons rfl (fun K hK => ?_) AllReadyH.nil)
          try simp only [Go.wp_at_succ, Go.wp_at_zero]
          have hl := HLD.out _ Bu2.out
          go_simp
          refine hK.out _ _ (HS.out _ Bu2.out) (fun hHeld => ?_)
          clear hK K hl
          try simp only [Act.put, List.setIfInBounds_toArray, List.set_cons_zero, List.set_cons_succ]
          refine wpAnyH_ready (rs := [6]) (by kernel_rfl) (by simp) (AllReadyH.cons rfl (fun K hK => ?_) AllReadyH.nil)
          have HRu : Hid (u2.ownsRow W.heap.size 77 4 (.slice (some ⟨u0.heap.size, 0, none⟩) 0 0) 0 []) := ⟨rfl, .inr ⟨u0.heap.size, 0, #[], rfl, Bu0.out.size, Eu2.out, Nat.le_refl _, Nat.zero_le _, rfl, rfl⟩⟩
          refine stepApp rfl (.tmp 54) (.tmp 58) 32 32 rfl W.heap.size 77 i0 (.agg #[.int .i64 0, .int .i64 0, .int .i64 0, .slice none 0 0]) 4 48 Try.underlying32 hi hz0 hz1 hz2 rfl (.slice (some ⟨u0.heap.size, 0, none⟩) 0 0) _ _ rfl HRu.out _ m (rqs L) rfl (HSA.out _ Bu2.out) ?c3 ?c4 ?c5 ?_
          case c3 => unfold maxLen; omega
          case c4 => omega
          case c5 => exact Bu2.out.size
          intro vu3 u3 O G
          have Bu3 : Hid (Below W.heap.size W u3) := Bu2.out.grown G Bu2.out.size (fun y hy => (HRu.out.lt y hy).1)
          rw [Nat.zero_add, List.nil_append] at O
          have Xu3 : Hid (u3.heap[u1.heap.size]? = some (.cells #[.int .i64 ((r : Int) + 1), .int .i64 t, .int .i64 ep, .slice none 0 0] 77 (0, 0))) := (G.block _ (Array.getElem?_eq_some_iff.1 Xu2.out).1 (fun e => by have h := Xu2.out.symm.trans (show u2.heap[u1.heap.size]? = some (.cells #[] 77 (0, 0)) from by rw [show u1.heap.size = u0.heap.size by simpa [Value.ownBlock] using e]; exact Eu2.out); simp at h)).trans Xu2.out
          obtain ⟨au3, cu3, rfl⟩ := own_shape O
          have Ru3 := Lib.hid O
          clear O G
          refine hK.out _ _ (HS.out _ Bu3.out) (fun hHeld => ?_)
          clear hK K
          try simp only [Act.put]
          try simp only [List.setIfInBounds_toArray]
          refine wpAnyH_ready (rs := [15]) (by kernel_rfl) (by simp) (AllReadyH.cons rfl (fun K hK => ?_) AllReadyH.nil)
          refine stepApp rfl (.tmp 59) (.tmp 67) 32 32 rfl W.heap.size 77 i0 (.agg #[.int .i64 0, .int .i64 0, .int .i64 0, .slice none 0 0]) 4 48 Try.underlying32 hi hz0 hz1 hz2 rfl (.slice au3 m cu3) _ _ rfl Ru3.out _ 1 (rqs [⟨(r : Int) + 1, t, ep, .slice none 0 0, []⟩]) rfl (srcQ Xu3.out) ?c3 ?c4 ?c5 ?_
          case c3 => unfold maxLen; omega
          case c4 => omega
          case c5 => exact Bu3.out.size
          intro vu4 u4 O G
          have Bu4 : Hid (Below W.heap.size W u4) := Bu3.out.grown G Bu3.out.size (fun y hy => (Ru3.out.lt y hy).1)
          obtain ⟨au4, cu4, rfl⟩ := ownsRow_succ O
          have Ru4 := Lib.hid O
          clear O G
          refine hK.out _ _ (HS.out _ Bu4.out) (fun hHeld => ?_)
          clear hK K
          try simp only [Act.put]
          try simp only [List.setIfInBounds_toArray]
          first
            | (refine held_take 16 69 (v := ?_) rfl rfl (by kernel_rfl) (by kernel_rfl) (by kernel_rfl) (fun _ _ _ h => h) (by assumption) (by rfl) ?_ ?_; rotate_left; (focus (intro w hSw; (try dsimp only at hSw); go_simp <;> with_reducible rfl)))
            | refine held_pass 16 69 rfl rfl (by kernel_rfl) (by kernel_rfl) (by kernel_rfl) (fun _ _ _ h => h) (by assumption) (by rfl) ?_
          try simp only [Act.put]
          try simp only [List.setIfInBounds_toArray]
          first
            | (refine held_take 17 70 (v := ?_) rfl rfl (by kernel_rfl) (by kernel_rfl) (by kernel_rfl) (fun _ _ _ h => h) (by assumption) (by rfl) ?_ ?_; rotate_left; (focus (intro w hSw; (try dsimp only at hSw); go_simp <;> with_reducible rfl)))
            | refine held_pass 17 70 rfl rfl (by kernel_rfl) (by kernel_rfl) (by kernel_rfl) (fun _ _ _ h => h) (by assumption) (by rfl) ?_
          try simp only [Act.put]
          try simp only [List.setIfInBounds_toArray]
          have hcell := HLD.out _ Bu4.out
          have hfz := HFZ.out _ Bu4.out
          have hbk := HBK.out _ Bu4.out
          refine wpAnyH_ready (rs := [18]) (by kernel_rfl) (by simp) (AllReadyH.cons rfl (fun K hK => ?_) AllReadyH.nil)
          try simp only [Go.wp_at_succ, Go.wp_at_zero]
          go_simp
          have K1 := Lib.hid (rb_set hbk (.slice (some ⟨au4, 0, none⟩) (m + 1) cu4))
          have K2 := Lib.hid (own_at Ru4.out hbk (by decide) (Only.set rb 2 u4 (.slice (some ⟨au4, 0, none⟩) (m + 1) cu4)))
          have K3 := Lib.hid ((Only.of (S := fun k => k = rb) Bu4.out).trans (Only.set rb 2 u4 (.slice (some ⟨au4, 0, none⟩) (m + 1) cu4)))
          clear hcell hfz hbk
          refine hK.out _ _ (rb_one K1.out) (fun hHeld => ?_)
          clear hK K
          try simp only [Act.put]
          refine wpAnyH_done (by kernel_rfl) ?_ _
          go_wp2
          go_meet
          case rel => exact ⟨rfl, _, _, K1.out, K2.out, K3.out⟩
      · try simp only [Go.wp_at_succ, Go.wp_at_zero]
        have hl := HLD.out _ Bu0.out
        go_simp
        refine hK.out _ _ (HS.out _ Bu0.out) (fun hHeld => ?_)
        clear hK K hl
        try simp only [Act.put, List.setIfInBounds_toArray, List.set_cons_zero, List.set_cons_succ]
        refine wpAnyH_ready (rs := [1, 14]) (by kernel_rfl) (by simp) (AllReadyH.cons rfl (fun K hK => ?_) (AllReadyH.cons rfl (fun K hK => ?_) AllReadyH.nil))
        · try simp only [Go.wp_at_succ, Go.wp_at_zero]
          go_simp
          refine hK.out _ _ (HS.out _ (Bu0.out.alloc Bu0.out.size _)) (fun hHeld => ?_)
          clear hK K
          try simp only [Act.put, List.setIfInBounds_toArray, List.set_cons_zero, List.set_cons_succ]
          obtain ⟨u1, hN⟩ : ∃ u, u = u0.alloc (.cells #[] 77) := ⟨_, rfl⟩
          rw [← hN] at hHeld ⊢
          have Bu1 : Hid (Below W.heap.size W u1) := by rw [hN]; exact Bu0.out.alloc Bu0.out.size _
          have Eu1 : Hid (u1.heap[u0.heap.size]? = some (.cells #[] 77 (0, 0))) := by rw [hN]; exact heap_alloc_new u0 _
          clear hN
          refine wpAnyH_ready (rs := [6, 14]) (by kernel_rfl) (by simp) (AllReadyH.cons rfl (fun K hK => ?_) (AllReadyH.cons rfl (fun K hK => ?_) AllReadyH.nil))
          · have HRu : Hid (u1.ownsRow W.heap.size 77 4 (.slice (some ⟨u0.heap.size, 0, none⟩) 0 0) 0 []) := ⟨rfl, .inr ⟨u0.heap.size, 0, #[], rfl, Bu0.out.size, Eu1.out, Nat.le_refl _, Nat.zero_le _, rfl, rfl⟩⟩
            refine stepApp rfl (.tmp 54) (.tmp 58) 32 32 rfl W.heap.size 77 i0 (.agg #[.int .i64 0, .int .i64 0, .int .i64 0, .slice none 0 0]) 4 48 Try.underlying32 hi hz0 hz1 hz2 rfl (.slice (some ⟨u0.heap.size, 0, none⟩) 0 0) _ _ rfl HRu.out _ m (rqs L) rfl (HSA.out _ Bu1.out) ?c3 ?c4 ?c5 ?_
            case c3 => unfold maxLen; omega
            case c4 => omega
            case c5 => exact Bu1.out.size
            intro vu2 u2 O G
            have Bu2 : Hid (Below W.heap.size W u2) := Bu1.out.grown G Bu1.out.size (fun y hy => (HRu.out.lt y hy).1)
            rw [Nat.zero_add, List.nil_append] at O
            obtain ⟨au2, cu2, rfl⟩ := own_shape O
            have Ru2 := Lib.hid O
            clear O G
            refine hK.out _ _ (HS.out _ Bu2.out) (fun hHeld => ?_)
            clear hK K
            try simp only [Act.put]
            try simp only [List.setIfInBounds_toArray]
            refine wpAnyH_ready (rs := [14]) (by kernel_rfl) (by simp) (AllReadyH.cons rfl (fun K hK => ?_) AllReadyH.nil)
            try simp only [Go.wp_at_succ, Go.wp_at_zero]
            go_simp
            refine hK.out _ _ (HS.out _ (Bu2.out.alloc Bu2.out.size _)) (fun hHeld => ?_)
            clear hK K
            try simp only [Act.put, List.setIfInBounds_toArray, List.set_cons_zero, List.set_cons_succ]
            obtain ⟨u3, hN⟩ : ∃ u, u = u2.alloc (.cells #[.int .i64 ((r : Int) + 1), .int .i64 t, .int .i64 ep, .slice none 0 0] 77) := ⟨_, rfl⟩
            rw [← hN] at hHeld ⊢
            have Bu3 : Hid (Below W.heap.size W u3) := by rw [hN]; exact Bu2.out.alloc Bu2.out.size _
            have Xu3 : Hid (u3.heap[u2.heap.size]? = some (.cells #[.int .i64 ((r : Int) + 1), .int .i64 t, .int .i64 ep, .slice none 0 0] 77 (0, 0))) := by rw [hN]; exact heap_alloc_new u2 _
            have Ru3 := Lib.hid (Ru2.out.alloc (.cells #[.int .i64 ((r : Int) + 1), .int .i64 t, .int .i64 ep, .slice none 0 0] 77))
            rw [← hN] at Ru3
            clear hN
            refine wpAnyH_ready (rs := [15]) (by kernel_rfl) (by simp) (AllReadyH.cons rfl (fun K hK => ?_) AllReadyH.nil)
            refine stepApp rfl (.tmp 59) (.tmp 67) 32 32 rfl W.heap.size 77 i0 (.agg #[.int .i64 0, .int .i64 0, .int .i64 0, .slice none 0 0]) 4 48 Try.underlying32 hi hz0 hz1 hz2 rfl (.slice au2 m cu2) _ _ rfl Ru3.out _ 1 (rqs [⟨(r : Int) + 1, t, ep, .slice none 0 0, []⟩]) rfl (srcQ Xu3.out) ?c3 ?c4 ?c5 ?_
            case c3 => unfold maxLen; omega
            case c4 => omega
            case c5 => exact Bu3.out.size
            intro vu4 u4 O G
            have Bu4 : Hid (Below W.heap.size W u4) := Bu3.out.grown G Bu3.out.size (fun y hy => (Ru3.out.lt y hy).1)
            obtain ⟨au4, cu4, rfl⟩ := ownsRow_succ O
            have Ru4 := Lib.hid O
            clear O G
            refine hK.out _ _ (HS.out _ Bu4.out) (fun hHeld => ?_)
            clear hK K
            try simp only [Act.put]
            try simp only [List.setIfInBounds_toArray]
            first
              | (refine held_take 16 69 (v := ?_) rfl rfl (by kernel_rfl) (by kernel_rfl) (by kernel_rfl) (fun _ _ _ h => h) (by assumption) (by rfl) ?_ ?_; rotate_left; (focus (intro w hSw; (try dsimp only at hSw); go_simp <;> with_reducible rfl)))
              | refine held_pass 16 69 rfl rfl (by kernel_rfl) (by kernel_rfl) (by kernel_rfl) (fun _ _ _ h => h) (by assumption) (by rfl) ?_
            try simp only [Act.put]
            try simp only [List.setIfInBounds_toArray]
            first
              | (refine held_take 17 70 (v := ?_) rfl rfl (by kernel_rfl) (by kernel_rfl) (by kernel_rfl) (fun _ _ _ h => h) (by assumption) (by rfl) ?_ ?_; rotate_left; (focus (intro w hSw; (try dsimp only at hSw); go_simp <;> with_reducible rfl)))
              | refine held_pass 17 70 rfl rfl (by kernel_rfl) (by kernel_rfl) (by kernel_rfl) (fun _ _ _ h => h) (by assumption) (by rfl) ?_
            try simp only [Act.put]
            try simp only [List.setIfInBounds_toArray]
            have hcell := HLD.out _ Bu4.out
            have hfz := HFZ.out _ Bu4.out
            have hbk := HBK.out _ Bu4.out
            refine wpAnyH_ready (rs := [18]) (by kernel_rfl) (by simp) (AllReadyH.cons rfl (fun K hK => ?_) AllReadyH.nil)
            try simp only [Go.wp_at_succ, Go.wp_at_zero]
            go_simp
            have K1 := Lib.hid (rb_set hbk (.slice (some ⟨au4, 0, none⟩) (m + 1) cu4))
            have K2 := Lib.hid (own_at Ru4.out hbk (by decide) (Only.set rb 2 u4 (.slice (some ⟨au4, 0, none⟩) (m + 1) cu4)))
            have K3 := Lib.hid ((Only.of (S := fun k => k = rb) Bu4.out).trans (Only.set rb 2 u4 (.slice (some ⟨au4, 0, none⟩) (m + 1) cu4)))
            clear hcell hfz hbk
            refine hK.out _ _ (rb_one K1.out) (fun hHeld => ?_)
            clear hK K
            try simp only [Act.put]
            refine wpAnyH_done (by kernel_rfl) ?_ _
            go_wp2
            go_meet
            case rel => exact ⟨rfl, _, _, K1.out, K2.out, K3.out⟩
          · try simp only [Go.wp_at_succ, Go.wp_at_zero]
            go_simp
            refine hK.out _ _ (HS.out _ (Bu1.out.alloc Bu1.out.size _)) (fun hHeld => ?_)
            clear hK K
            try simp only [Act.put, List.setIfInBounds_toArray, List.set_cons_zero, List.set_cons_succ]
            obtain ⟨u2, hN⟩ : ∃ u, u = u1.alloc (.cells #[.int .i64 ((r : Int) + 1), .int .i64 t, .int .i64 ep, .slice none 0 0] 77) := ⟨_, rfl⟩
            rw [← hN] at hHeld ⊢
            have Bu2 : Hid (Below W.heap.size W u2) := by rw [hN]; exact Bu1.out.alloc Bu1.out.size _
            have Eu2 : Hid (u2.heap[u0.heap.size]? = some (.cells #[] 77 (0, 0))) := by rw [hN]; exact alloc_keepQ _ Eu1.out
            have Xu2 : Hid (u2.heap[u1.heap.size]? = some (.cells #[.int .i64 ((r : Int) + 1), .int .i64 t, .int .i64 ep, .slice none 0 0] 77 (0, 0))) := by rw [hN]; exact heap_alloc_new u1 _
            clear hN
            refine wpAnyH_ready (rs := [6]) (by kernel_rfl) (by simp) (AllReadyH.cons rfl (fun K hK => ?_) AllReadyH.nil)
            have HRu : Hid (u2.ownsRow W.heap.size 77 4 (.slice (some ⟨u0.heap.size, 0, none⟩) 0 0) 0 []) := ⟨rfl, .inr ⟨u0.heap.size, 0, #[], rfl, Bu0.out.size, Eu2.out, Nat.le_refl _, Nat.zero_le _, rfl, rfl⟩⟩
            refine stepApp rfl (.tmp 54) (.tmp 58) 32 32 rfl W.heap.size 77 i0 (.agg #[.int .i64 0, .int .i64 0, .int .i64 0, .slice none 0 0]) 4 48 Try.underlying32 hi hz0 hz1 hz2 rfl (.slice (some ⟨u0.heap.size, 0, none⟩) 0 0) _ _ rfl HRu.out _ m (rqs L) rfl (HSA.out _ Bu2.out) ?c3 ?c4 ?c5 ?_
            case c3 => unfold maxLen; omega
            case c4 => omega
            case c5 => exact Bu2.out.size
            intro vu3 u3 O G
            have Bu3 : Hid (Below W.heap.size W u3) := Bu2.out.grown G Bu2.out.size (fun y hy => (HRu.out.lt y hy).1)
            rw [Nat.zero_add, List.nil_append] at O
            have Xu3 : Hid (u3.heap[u1.heap.size]? = some (.cells #[.int .i64 ((r : Int) + 1), .int .i64 t, .int .i64 ep, .slice none 0 0] 77 (0, 0))) := (G.block _ (Array.getElem?_eq_some_iff.1 Xu2.out).1 (fun e => by have h := Xu2.out.symm.trans (show u2.heap[u1.heap.size]? = some (.cells #[] 77 (0, 0)) from by rw [show u1.heap.size = u0.heap.size by simpa [Value.ownBlock] using e]; exact Eu2.out); simp at h)).trans Xu2.out
            obtain ⟨au3, cu3, rfl⟩ := own_shape O
            have Ru3 := Lib.hid O
            clear O G
            refine hK.out _ _ (HS.out _ Bu3.out) (fun hHeld => ?_)
            clear hK K
            try simp only [Act.put]
            try simp only [List.setIfInBounds_toArray]
            refine wpAnyH_ready (rs := [15]) (by kernel_rfl) (by simp) (AllReadyH.cons rfl (fun K hK => ?_) AllReadyH.nil)
            refine stepApp rfl (.tmp 59) (.tmp 67) 32 32 rfl W.heap.size 77 i0 (.agg #[.int .i64 0, .int .i64 0, .int .i64 0, .slice none 0 0]) 4 48 Try.underlying32 hi hz0 hz1 hz2 rfl (.slice au3 m cu3) _ _ rfl Ru3.out _ 1 (rqs [⟨(r : Int) + 1, t, ep, .slice none 0 0, []⟩]) rfl (srcQ Xu3.out) ?c3 ?c4 ?c5 ?_
            case c3 => unfold maxLen; omega
            case c4 => omega
            case c5 => exact Bu3.out.size
            intro vu4 u4 O G
            have Bu4 : Hid (Below W.heap.size W u4) := Bu3.out.grown G Bu3.out.size (fun y hy => (Ru3.out.lt y hy).1)
            obtain ⟨au4, cu4, rfl⟩ := ownsRow_succ O
            have Ru4 := Lib.hid O
            clear O G
            refine hK.out _ _ (HS.out _ Bu4.out) (fun hHeld => ?_)
            clear hK K
            try simp only [Act.put]
            try simp only [List.setIfInBounds_toArray]
            first
              | (refine held_take 16 69 (v := ?_) rfl rfl (by kernel_rfl) (by kernel_rfl) (by kernel_rfl) (fun _ _ _ h => h) (by assumption) (by rfl) ?_ ?_; rotate_left; (focus (intro w hSw; (try dsimp only at hSw); go_simp <;> with_reducible rfl)))
              | refine held_pass 16 69 rfl rfl (by kernel_rfl) (by kernel_rfl) (by kernel_rfl) (fun _ _ _ h => h) (by assumption) (by rfl) ?_
            try simp only [Act.put]
            try simp only [List.setIfInBounds_toArray]
            first
              | (refine held_take 17 70 (v := ?_) rfl rfl (by kernel_rfl) (by kernel_rfl) (by kernel_rfl) (fun _ _ _ h => h) (by assumption) (by rfl) ?_ ?_; rotate_left; (focus (intro w hSw; (try dsimp only at hSw); go_simp <;> with_reducible rfl)))
              | refine held_pass 17 70 rfl rfl (by kernel_rfl) (by kernel_rfl) (by kernel_rfl) (fun _ _ _ h => h) (by assumption) (by rfl) ?_
            try simp only [Act.put]
            try simp only [List.setIfInBounds_toArray]
            have hcell := HLD.out _ Bu4.out
            have hfz := HFZ.out _ Bu4.out
            have hbk := HBK.out _ Bu4.out
            refine wpAnyH_ready (rs := [18]) (by kernel_rfl) (by simp) (AllReadyH.cons rfl (fun K hK => ?_) AllReadyH.nil)
            try simp only [Go.wp_at_succ, Go.wp_at_zero]
            go_simp
            have K1 := Lib.hid (rb_set hbk (.slice (some ⟨au4, 0, none⟩) (m + 1) cu4))
            have K2 := Lib.hid (own_at Ru4.out hbk (by decide) (Only.set rb 2 u4 (.slice (some ⟨au4, 0, none⟩) (m + 1) cu4)))
            have K3 := Lib.hid ((Only.of (S := fun k => k = rb) Bu4.out).trans (Only.set rb 2 u4 (.slice (some ⟨au4, 0, none⟩) (m + 1) cu4)))
            clear hcell hfz hbk
            refine hK.out _ _ (rb_one K1.out) (fun hHeld => ?_)
            clear hK K
            try simp only [Act.put]
            refine wpAnyH_done (by kernel_rfl) ?_ _
            go_wp2
            go_meet
            case rel => exact ⟨rfl, _, _, K1.out, K2.out, K3.out⟩
        · try simp only [Go.wp_at_succ, Go.wp_at_zero]
          go_simp
          refine hK.out _ _ (HS.out _ (Bu0.out.alloc Bu0.out.size _)) (fun hHeld => ?_)
          clear hK K
          try simp only [Act.put, List.setIfInBounds_toArray, List.set_cons_zero, List.set_cons_succ]
          obtain ⟨u1, hN⟩ : ∃ u, u = u0.alloc (.cells #[.int .i64 ((r : Int) + 1), .int .i64 t, .int .i64 ep, .slice none 0 0] 77) := ⟨_, rfl⟩
          rw [← hN] at hHeld ⊢
          have Bu1 : Hid (Below W.heap.size W u1) := by rw [hN]; exact Bu0.out.alloc Bu0.out.size _
          have Xu1 : Hid (u1.heap[u0.heap.size]? = some (.cells #[.int .i64 ((r : Int) + 1), .int .i64 t, .int .i64 ep, .slice none 0 0] 77 (0, 0))) := by rw [hN]; exact heap_alloc_new u0 _
          clear hN
          refine wpAnyH_ready (rs := [1]) (by kernel_rfl) (by simp) (AllReadyH.cons rfl (fun K hK => ?_) AllReadyH.nil)
          try simp only [Go.wp_at_succ, Go.wp_at_zero]
          go_simp
          refine hK.out _ _ (HS.out _ (Bu1.out.alloc Bu1.out.size _)) (fun hHeld => ?_)
          clear hK K
          try simp only [Act.put, List.setIfInBounds_toArray, List.set_cons_zero, List.set_cons_succ]
          obtain ⟨u2, hN⟩ : ∃ u, u = u1.alloc (.cells #[] 77) := ⟨_, rfl⟩
          rw [← hN] at hHeld ⊢
          have Bu2 : Hid (Below W.heap.size W u2) := by rw [hN]; exact Bu1.out.alloc Bu1.out.size _
          have Xu2 : Hid (u2.heap[u0.heap.size]? = some (.cells #[.int .i64 ((r : Int) + 1), .int .i64 t, .int .i64 ep, .slice none 0 0] 77 (0, 0))) := by rw [hN]; exact alloc_keepQ _ Xu1.out
          have Eu2 : Hid (u2.heap[u1.heap.size]? = some (.cells #[] 77 (0, 0))) := by rw [hN]; exact heap_alloc_new u1 _
          clear hN
          refine wpAnyH_ready (rs := [6]) (by kernel_rfl) (by simp) (AllReadyH.cons rfl (fun K hK => ?_) AllReadyH.nil)
          have HRu : Hid (u2.ownsRow W.heap.size 77 4 (.slice (some ⟨u1.heap.size, 0, none⟩) 0 0) 0 []) := ⟨rfl, .inr ⟨u1.heap.size, 0, #[], rfl, Bu1.out.size, Eu2.out, Nat.le_refl _, Nat.zero_le _, rfl, rfl⟩⟩
          refine stepApp rfl (.tmp 54) (.tmp 58) 32 32 rfl W.heap.size 77 i0 (.agg #[.int .i64 0, .int .i64 0, .int .i64 0, .slice none 0 0]) 4 48 Try.underlying32 hi hz0 hz1 hz2 rfl (.slice (some ⟨u1.heap.size, 0, none⟩) 0 0) _ _ rfl HRu.out _ m (rqs L) rfl (HSA.out _ Bu2.out) ?c3 ?c4 ?c5 ?_
          case c3 => unfold maxLen; omega
          case c4 => omega
          case c5 => exact Bu2.out.size
          intro vu3 u3 O G
          have Bu3 : Hid (Below W.heap.size W u3) := Bu2.out.grown G Bu2.out.size (fun y hy => (HRu.out.lt y hy).1)
          rw [Nat.zero_add, List.nil_append] at O
          have Xu3 : Hid (u3.heap[u0.heap.size]? = some (.cells #[.int .i64 ((r : Int) + 1), .int .i64 t, .int .i64 ep, .slice none 0 0] 77 (0, 0))) := (G.block _ (Array.getElem?_eq_some_iff.1 Xu2.out).1 (fun e => by have h := Xu2.out.symm.trans (show u2.heap[u0.heap.size]? = some (.cells #[] 77 (0, 0)) from by rw [show u0.heap.size = u1.heap.size by simpa [Value.ownBlock] using e]; exact Eu2.out); simp at h)).trans Xu2.out
          obtain ⟨au3, cu3, rfl⟩ := own_shape O
          have Ru3 := Lib.hid O
          clear O G
          refine hK.out _ _ (HS.out _ Bu3.out) (fun hHeld => ?_)
          clear hK K
          try simp only [Act.put]
          try simp only [List.setIfInBounds_toArray]
          refine wpAnyH_ready (rs := [15]) (by kernel_rfl) (by simp) (AllReadyH.cons rfl (fun K hK => ?_) AllReadyH.nil)
          refine stepApp rfl (.tmp 59) (.tmp 67) 32 32 rfl W.heap.size 77 i0 (.agg #[.int .i64 0, .int .i64 0, .int .i64 0, .slice none 0 0]) 4 48 Try.underlying32 hi hz0 hz1 hz2 rfl (.slice au3 m cu3) _ _ rfl Ru3.out _ 1 (rqs [⟨(r : Int) + 1, t, ep, .slice none 0 0, []⟩]) rfl (srcQ Xu3.out) ?c3 ?c4 ?c5 ?_
          case c3 => unfold maxLen; omega
          case c4 => omega
          case c5 => exact Bu3.out.size
          intro vu4 u4 O G
          have Bu4 : Hid (Below W.heap.size W u4) := Bu3.out.grown G Bu3.out.size (fun y hy => (Ru3.out.lt y hy).1)
          obtain ⟨au4, cu4, rfl⟩ := ownsRow_succ O
          have Ru4 := Lib.hid O
          clear O G
          refine hK.out _ _ (HS.out _ Bu4.out) (fun hHeld => ?_)
          clear hK K
          try simp only [Act.put]
          try simp only [List.setIfInBounds_toArray]
          first
            | (refine held_take 16 69 (v := ?_) rfl rfl (by kernel_rfl) (by kernel_rfl) (by kernel_rfl) (fun _ _ _ h => h) (by assumption) (by rfl) ?_ ?_; rotate_left; (focus (intro w hSw; (try dsimp only at hSw); go_simp <;> with_reducible rfl)))
            | refine held_pass 16 69 rfl rfl (by kernel_rfl) (by kernel_rfl) (by kernel_rfl) (fun _ _ _ h => h) (by assumption) (by rfl) ?_
          try simp only [Act.put]
          try simp only [List.setIfInBounds_toArray]
          first
            | (refine held_take 17 70 (v := ?_) rfl rfl (by kernel_rfl) (by kernel_rfl) (by kernel_rfl) (fun _ _ _ h => h) (by assumption) (by rfl) ?_ ?_; rotate_left; (focus (intro w hSw; (try dsimp only at hSw); go_simp <;> with_reducible rfl)))
            | refine held_pass 17 70 rfl rfl (by kernel_rfl) (by kernel_rfl) (by kernel_rfl) (fun _ _ _ h => h) (by assumption) (by rfl) ?_
          try simp only [Act.put]
          try simp only [List.setIfInBounds_toArray]
          have hcell := HLD.out _ Bu4.out
          have hfz := HFZ.out _ Bu4.out
          have hbk := HBK.out _ Bu4.out
          refine wpAnyH_ready (rs := [18]) (by kernel_rfl) (by simp) (AllReadyH.cons rfl (fun K hK => ?_) AllReadyH.nil)
          try simp only [Go.wp_at_succ, Go.wp_at_zero]
          go_simp
          have K1 := Lib.hid (rb_set hbk (.slice (some ⟨au4, 0, none⟩) (m + 1) cu4))
          have K2 := Lib.hid (own_at Ru4.out hbk (by decide) (Only.set rb 2 u4 (.slice (some ⟨au4, 0, none⟩) (m + 1) cu4)))
          have K3 := Lib.hid ((Only.of (S := fun k => k = rb) Bu4.out).trans (Only.set rb 2 u4 (.slice (some ⟨au4, 0, none⟩) (m + 1) cu4)))
          clear hcell hfz hbk
          refine hK.out _ _ (rb_one K1.out) (fun hHeld => ?_)
          clear hK K
          try simp only [Act.put]
          refine wpAnyH_done (by kernel_rfl) ?_ _
          go_wp2
          go_meet
          case rel => exact ⟨rfl, _, _, K1.out, K2.out, K3.out⟩
      · try simp only [Go.wp_at_succ, Go.wp_at_zero]
        go_simp
        refine hK.out _ _ (HS.out _ (Bu0.out.alloc Bu0.out.size _)) (fun hHeld => ?_)
        clear hK K
        try simp only [Act.put, List.setIfInBounds_toArray, List.set_cons_zero, List.set_cons_succ]
        obtain ⟨u1, hN⟩ : ∃ u, u = u0.alloc (.cells #[.int .i64 ((r : Int) + 1), .int .i64 t, .int .i64 ep, .slice none 0 0] 77) := ⟨_, rfl⟩
        rw [← hN] at hHeld ⊢
        have Bu1 : Hid (Below W.heap.size W u1) := by rw [hN]; exact Bu0.out.alloc Bu0.out.size _
        have Xu1 : Hid (u1.heap[u0.heap.size]? = some (.cells #[.int .i64 ((r : Int) + 1), .int .i64 t, .int .i64 ep, .slice none 0 0] 77 (0, 0))) := by rw [hN]; exact heap_alloc_new u0 _
        clear hN
        refine wpAnyH_ready (rs := [1, 5]) (by kernel_rfl) (by simp) (AllReadyH.cons rfl (fun K hK => ?_) (AllReadyH.cons rfl (fun K hK => ?_) AllReadyH.nil))
        · try simp only [Go.wp_at_succ, Go.wp_at_zero]
          go_simp
          refine hK.out _ _ (HS.out _ (Bu1.out.alloc Bu1.out.size _)) (fun hHeld => ?_)
          clear hK K
          try simp only [Act.put, List.setIfInBounds_toArray, List.set_cons_zero, List.set_cons_succ]
          obtain ⟨u2, hN⟩ : ∃ u, u = u1.alloc (.cells #[] 77) := ⟨_, rfl⟩
          rw [← hN] at hHeld ⊢
          have Bu2 : Hid (Below W.heap.size W u2) := by rw [hN]; exact Bu1.out.alloc Bu1.out.size _
          have Xu2 : Hid (u2.heap[u0.heap.size]? = some (.cells #[.int .i64 ((r : Int) + 1), .int .i64 t, .int .i64 ep, .slice none 0 0] 77 (0, 0))) := by rw [hN]; exact alloc_keepQ _ Xu1.out
          have Eu2 : Hid (u2.heap[u1.heap.size]? = some (.cells #[] 77 (0, 0))) := by rw [hN]; exact heap_alloc_new u1 _
          clear hN
          refine wpAnyH_ready (rs := [5]) (by kernel_rfl) (by simp) (AllReadyH.cons rfl (fun K hK => ?_) AllReadyH.nil)
          try simp only [Go.wp_at_succ, Go.wp_at_zero]
          have hl := HLD.out _ Bu2.out
          go_simp
          refine hK.out _ _ (HS.out _ Bu2.out) (fun hHeld => ?_)
          clear hK K hl
          try simp only [Act.put, List.setIfInBounds_toArray, List.set_cons_zero, List.set_cons_succ]
          refine wpAnyH_ready (rs := [6]) (by kernel_rfl) (by simp) (AllReadyH.cons rfl (fun K hK => ?_) AllReadyH.nil)
          have HRu : Hid (u2.ownsRow W.heap.size 77 4 (.slice (some ⟨u1.heap.size, 0, none⟩) 0 0) 0 []) := ⟨rfl, .inr ⟨u1.heap.size, 0, #[], rfl, Bu1.out.size, Eu2.out, Nat.le_refl _, Nat.zero_le _, rfl, rfl⟩⟩
          refine stepApp rfl (.tmp 54) (.tmp 58) 32 32 rfl W.heap.size 77 i0 (.agg #[.int .i64 0, .int .i64 0, .int .i64 0, .slice none 0 0]) 4 48 Try.underlying32 hi hz0 hz1 hz2 rfl (.slice (some ⟨u1.heap.size, 0, none⟩) 0 0) _ _ rfl HRu.out _ m (rqs L) rfl (HSA.out _ Bu2.out) ?c3 ?c4 ?c5 ?_
          case c3 => unfold maxLen; omega
          case c4 => omega
          case c5 => exact Bu2.out.size
          intro vu3 u3 O G
          have Bu3 : Hid (Below W.heap.size W u3) := Bu2.out.grown G Bu2.out.size (fun y hy => (HRu.out.lt y hy).1)
          rw [Nat.zero_add, List.nil_append] at O
          have Xu3 : Hid (u3.heap[u0.heap.size]? = some (.cells #[.int .i64 ((r : Int) + 1), .int .i64 t, .int .i64 ep, .slice none 0 0] 77 (0, 0))) := (G.block _ (Array.getElem?_eq_some_iff.1 Xu2.out).1 (fun e => by have h := Xu2.out.symm.trans (show u2.heap[u0.heap.size]? = some (.cells #[] 77 (0, 0)) from by rw [show u0.heap.size = u1.heap.size by simpa [Value.ownBlock] using e]; exact Eu2.out); simp at h)).trans Xu2.out
          obtain ⟨au3, cu3, rfl⟩ := own_shape O
          have Ru3 := Lib.hid O
          clear O G
          refine hK.out _ _ (HS.out _ Bu3.out) (fun hHeld => ?_)
          clear hK K
          try simp only [Act.put]
          try simp only [List.setIfInBounds_toArray]
          refine wpAnyH_ready (rs := [15]) (by kernel_rfl) (by simp) (AllReadyH.cons rfl (fun K hK => ?_) AllReadyH.nil)
          refine stepApp rfl (.tmp 59) (.tmp 67) 32 32 rfl W.heap.size 77 i0 (.agg #[.int .i64 0, .int .i64 0, .int .i64 0, .slice none 0 0]) 4 48 Try.underlying32 hi hz0 hz1 hz2 rfl (.slice au3 m cu3) _ _ rfl Ru3.out _ 1 (rqs [⟨(r : Int) + 1, t, ep, .slice none 0 0, []⟩]) rfl (srcQ Xu3.out) ?c3 ?c4 ?c5 ?_
          case c3 => unfold maxLen; omega
          case c4 => omega
          case c5 => exact Bu3.out.size
          intro vu4 u4 O G
          have Bu4 : Hid (Below W.heap.size W u4) := Bu3.out.grown G Bu3.out.size (fun y hy => (Ru3.out.lt y hy).1)
          obtain ⟨au4, cu4, rfl⟩ := ownsRow_succ O
          have Ru4 := Lib.hid O
          clear O G
          refine hK.out _ _ (HS.out _ Bu4.out) (fun hHeld => ?_)
          clear hK K
          try simp only [Act.put]
          try simp only [List.setIfInBounds_toArray]
          first
            | (refine held_take 16 69 (v := ?_) rfl rfl (by kernel_rfl) (by kernel_rfl) (by kernel_rfl) (fun _ _ _ h => h) (by assumption) (by rfl) ?_ ?_; rotate_left; (focus (intro w hSw; (try dsimp only at hSw); go_simp <;> with_reducible rfl)))
            | refine held_pass 16 69 rfl rfl (by kernel_rfl) (by kernel_rfl) (by kernel_rfl) (fun _ _ _ h => h) (by assumption) (by rfl) ?_
          try simp only [Act.put]
          try simp only [List.setIfInBounds_toArray]
          first
            | (refine held_take 17 70 (v := ?_) rfl rfl (by kernel_rfl) (by kernel_rfl) (by kernel_rfl) (fun _ _ _ h => h) (by assumption) (by rfl) ?_ ?_; rotate_left; (focus (intro w hSw; (try dsimp only at hSw); go_simp <;> with_reducible rfl)))
            | refine held_pass 17 70 rfl rfl (by kernel_rfl) (by kernel_rfl) (by kernel_rfl) (fun _ _ _ h => h) (by assumption) (by rfl) ?_
          try simp only [Act.put]
          try simp only [List.setIfInBounds_toArray]
          have hcell := HLD.out _ Bu4.out
          have hfz := HFZ.out _ Bu4.out
          have hbk := HBK.out _ Bu4.out
          refine wpAnyH_ready (rs := [18]) (by kernel_rfl) (by simp) (AllReadyH.cons rfl (fun K hK => ?_) AllReadyH.nil)
          try simp only [Go.wp_at_succ, Go.wp_at_zero]
          go_simp
          have K1 := Lib.hid (rb_set hbk (.slice (some ⟨au4, 0, none⟩) (m + 1) cu4))
          have K2 := Lib.hid (own_at Ru4.out hbk (by decide) (Only.set rb 2 u4 (.slice (some ⟨au4, 0, none⟩) (m + 1) cu4)))
          have K3 := Lib.hid ((Only.of (S := fun k => k = rb) Bu4.out).trans (Only.set rb 2 u4 (.slice (some ⟨au4, 0, none⟩) (m + 1) cu4)))
          clear hcell hfz hbk
          refine hK.out _ _ (rb_one K1.out) (fun hHeld => ?_)
          clear hK K
          try simp only [Act.put]
          refine wpAnyH_done (by kernel_rfl) ?_ _
          go_wp2
          go_meet
          case rel => exact ⟨rfl, _, _, K1.out, K2.out, K3.out⟩
        · try simp only [Go.wp_at_succ, Go.wp_at_zero]
          have hl := HLD.out _ Bu1.out
          go_simp
          refine hK.out _ _ (HS.out _ Bu1.out) (fun hHeld => ?_)
          clear hK K hl
          try simp only [Act.put, List.setIfInBounds_toArray, List.set_cons_zero, List.set_cons_succ]
          refine wpAnyH_ready (rs := [1]) (by kernel_rfl) (by simp) (AllReadyH.cons rfl (fun K hK => ?_) AllReadyH.nil)
          try simp only [Go.wp_at_succ, Go.wp_at_zero]
          go_simp
          refine hK.out _ _ (HS.out _ (Bu1.out.alloc Bu1.out.size _)) (fun hHeld => ?_)
          clear hK K
          try simp only [Act.put, List.setIfInBounds_toArray, List.set_cons_zero, List.set_cons_succ]
          obtain ⟨u2, hN⟩ : ∃ u, u = u1.alloc (.cells #[] 77) := ⟨_, rfl⟩
          rw [← hN] at hHeld ⊢
          have Bu2 : Hid (Below W.heap.size W u2) := by rw [hN]; exact Bu1.out.alloc Bu1.out.size _
          have Xu2 : Hid (u2.heap[u0.heap.size]? = some (.cells #[.int .i64 ((r : Int) + 1), .int .i64 t, .int .i64 ep, .slice none 0 0] 77 (0, 0))) := by rw [hN]; exact alloc_keepQ _ Xu1.out
          have Eu2 : Hid (u2.heap[u1.heap.size]? = some (.cells #[] 77 (0, 0))) := by rw [hN]; exact heap_alloc_new u1 _
          clear hN
          refine wpAnyH_ready (rs := [6]) (by kernel_rfl) (by simp) (AllReadyH.cons rfl (fun K hK => ?_) AllReadyH.nil)
          have HRu : Hid (u2.ownsRow W.heap.size 77 4 (.slice (some ⟨u1.heap.size, 0, none⟩) 0 0) 0 []) := ⟨rfl, .inr ⟨u1.heap.size, 0, #[], rfl, Bu1.out.size, Eu2.out, Nat.le_refl _, Nat.zero_le _, rfl, rfl⟩⟩
          refine stepApp rfl (.tmp 54) (.tmp 58) 32 32 rfl W.heap.size 77 i0 (.agg #[.int .i64 0, .int .i64 0, .int .i64 0, .slice none 0 0]) 4 48 Try.underlying32 hi hz0 hz1 hz2 rfl (.slice (some ⟨u1.heap.size, 0, none⟩) 0 0) _ _ rfl HRu.out _ m (rqs L) rfl (HSA.out _ Bu2.out) ?c3 ?c4 ?c5 ?_
          case c3 => unfold maxLen; omega
          case c4 => omega
          case c5 => exact Bu2.out.size
          intro vu3 u3 O G
          have Bu3 : Hid (Below W.heap.size W u3) := Bu2.out.grown G Bu2.out.size (fun y hy => (HRu.out.lt y hy).1)
          rw [Nat.zero_add, List.nil_append] at O
          have Xu3 : Hid (u3.heap[u0.heap.size]? = some (.cells #[.int .i64 ((r : Int) + 1), .int .i64 t, .int .i64 ep, .slice none 0 0] 77 (0, 0))) := (G.block _ (Array.getElem?_eq_some_iff.1 Xu2.out).1 (fun e => by have h := Xu2.out.symm.trans (show u2.heap[u0.heap.size]? = some (.cells #[] 77 (0, 0)) from by rw [show u0.heap.size = u1.heap.size by simpa [Value.ownBlock] using e]; exact Eu2.out); simp at h)).trans Xu2.out
          obtain ⟨au3, cu3, rfl⟩ := own_shape O
          have Ru3 := Lib.hid O
          clear O G
          refine hK.out _ _ (HS.out _ Bu3.out) (fun hHeld => ?_)
          clear hK K
          try simp only [Act.put]
          try simp only [List.setIfInBounds_toArray]
          refine wpAnyH_ready (rs := [15]) (by kernel_rfl) (by simp) (AllReadyH.cons rfl (fun K hK => ?_) AllReadyH.nil)
          refine stepApp rfl (.tmp 59) (.tmp 67) 32 32 rfl W.heap.size 77 i0 (.agg #[.int .i64 0, .int .i64 0, .int .i64 0, .slice none 0 0]) 4 48 Try.underlying32 hi hz0 hz1 hz2 rfl (.slice au3 m cu3) _ _ rfl Ru3.out _ 1 (rqs [⟨(r : Int) + 1, t, ep, .slice none 0 0, []⟩]) rfl (srcQ Xu3.out) ?c3 ?c4 ?c5 ?_
          case c3 => unfold maxLen; omega
          case c4 => omega
          case c5 => exact Bu3.out.size
          intro vu4 u4 O G
          have Bu4 : Hid (Below W.heap.size W u4) := Bu3.out.grown G Bu3.out.size (fun y hy => (Ru3.out.lt y hy).1)
          obtain ⟨au4, cu4, rfl⟩ := ownsRow_succ O
          have Ru4 := Lib.hid O
          clear O G
          refine hK.out _ _ (HS.out _ Bu4.out) (fun hHeld => ?_)
          clear hK K
          try simp only [Act.put]
          try simp only [List.setIfInBounds_toArray]
          first
            | (refine held_take 16 69 (v := ?_) rfl rfl (by kernel_rfl) (by kernel_rfl) (by kernel_rfl) (fun _ _ _ h => h) (by assumption) (by rfl) ?_ ?_; rotate_left; (focus (intro w hSw; (try dsimp only at hSw); go_simp <;> with_reducible rfl)))
            | refine held_pass 16 69 rfl rfl (by kernel_rfl) (by kernel_rfl) (by kernel_rfl) (fun _ _ _ h => h) (by assumption) (by rfl) ?_
          try simp only [Act.put]
          try simp only [List.setIfInBounds_toArray]
          first
            | (refine held_take 17 70 (v := ?_) rfl rfl (by kernel_rfl) (by kernel_rfl) (by kernel_rfl) (fun _ _ _ h => h) (by assumption) (by rfl) ?_ ?_; rotate_left; (focus (intro w hSw; (try dsimp only at hSw); go_simp <;> with_reducible rfl)))
            | refine held_pass 17 70 rfl rfl (by kernel_rfl) (by kernel_rfl) (by kernel_rfl) (fun _ _ _ h => h) (by assumption) (by rfl) ?_
          try simp only [Act.put]
          try simp only [List.setIfInBounds_toArray]
          have hcell := HLD.out _ Bu4.out
          have hfz := HFZ.out _ Bu4.out
          have hbk := HBK.out _ Bu4.out
          refine wpAnyH_ready (rs := [18]) (by kernel_rfl) (by simp) (AllReadyH.cons rfl (fun K hK => ?_) AllReadyH.nil)
          try simp only [Go.wp_at_succ, Go.wp_at_zero]
          go_simp
          have K1 := Lib.hid (rb_set hbk (.slice (some ⟨au4, 0, none⟩) (m + 1) cu4))
          have K2 := Lib.hid (own_at Ru4.out hbk (by decide) (Only.set rb 2 u4 (.slice (some ⟨au4, 0, none⟩) (m + 1) cu4)))
          have K3 := Lib.hid ((Only.of (S := fun k => k = rb) Bu4.out).trans (Only.set rb 2 u4 (.slice (some ⟨au4, 0, none⟩) (m + 1) cu4)))
          clear hcell hfz hbk
          refine hK.out _ _ (rb_one K1.out) (fun hHeld => ?_)
          clear hK K
          try simp only [Act.put]
          refine wpAnyH_done (by kernel_rfl) ?_ _
          go_wp2
          go_meet
          case rel => exact ⟨rfl, _, _, K1.out, K2.out, K3.out⟩
    case rest =>
      obtain ⟨rfl, g3, c3, K1, K2, K3⟩ := hcut
      have HC1 : Hid (wc.cell? ⟨rb, 1, none⟩ = some (.int .i64 ((r : Int) + 1))) := rb_one K1.out
      have c2 : wc.cell? ⟨rb, 2, none⟩ = some (.slice (some ⟨g3, 0, none⟩) (m + 1) c3) := by rw [cell_of_row _ _ _ _ _ _ K1.out]; rfl
      have f2 : wc.frozen? ⟨rb, 2, none⟩ = false := by have h := K1.out; simp [World.frozen?, h]
      have hcap := own_cap K2.out
      have HTL2 : Hid (∀ q ∈ L ++ [⟨(r : Int) + 1, t, ep, .slice none 0 0, []⟩], RowI wc q.v q.told) := fun q hq => by
        rcases List.mem_append.1 hq with h | h
        · exact (HTL.out q h).beside HBLK.out (by decide) K3.out
        · rw [List.mem_singleton.1 h]
          exact RowI.none wc
      have HLOW := Lib.hid HH.out.low
      have HO3 := Lib.hid (HO.out.trans K3.out)
      have hrr : ((r + 1 : Nat) : Int) = (r : Int) + 1 := by omega
      have HRR := Lib.hid hrr
      clear HH HTL HBK HS HLD HFZ HSA HROW HO K3 hrr
      by_cases h4 : m + 1 ≤ 4
      · have h4' : ¬ (4 : Int) < (m : Int) + 1 := by omega
        have c1 := HC1.out
        have HROW2 : Hid (QRow wc n0 (.slice (some ⟨g3, 0, none⟩) (m + 1) c3) (L ++ [⟨(r : Int) + 1, t, ep, .slice none 0 0, []⟩])) := row_of_own (by rw [rqs_app]; exact K2.out) (by simp [HM.out]) HNN.out
        have HAL : Hid (askL L ⟨(r : Int) + 1, t, ep, .slice none 0 0, []⟩ = L ++ [⟨(r : Int) + 1, t, ep, .slice none 0 0, []⟩]) := by
          show _ = _
          unfold askL
          rw [if_pos (by rw [← HM.out]; exact h4)]
        clear h4
        go_wp2
        go_returns
        exact ⟨rfl, ⟨_, by rw [HAL.out]; exact ⟨by rw [HRR.out]; exact K1.out, HROW2.out, HTL2.out, HLOW.out⟩⟩, HO3.out⟩
      · obtain rfl : m = 4 := by omega
        obtain ⟨q1, l, hL⟩ : ∃ q1 l, L = q1 :: l := by
          cases L with
          | nil => have := HM.out; simp at this
          | cons q1 l => exact ⟨q1, l, rfl⟩
        have hl4 : (l ++ [⟨(r : Int) + 1, t, ep, .slice none 0 0, []⟩] : List RQ).length = 4 := by have := HM.out; rw [hL] at this; simp at this ⊢; omega
        have hK2 := K2.out
        rw [← rqs_app, hL, List.cons_append] at hK2
        have HROW2 : Hid (QRow wc n0 (.slice (some ⟨g3, 4, none⟩) 4 (c3 - 1)) (l ++ [⟨(r : Int) + 1, t, ep, .slice none 0 0, []⟩])) := row_of_tail hK2 hl4 HNN.out
        have HAL : Hid (askL L ⟨(r : Int) + 1, t, ep, .slice none 0 0, []⟩ = l ++ [⟨(r : Int) + 1, t, ep, .slice none 0 0, []⟩]) := by
          show _ = _
          unfold askL
          rw [if_neg (by rw [← HM.out]; omega), hL]
          rfl
        have hO := Only.set rb 2 wc (.slice (some ⟨g3, 4, none⟩) 4 (c3 - 1))
        have hB := rb_set K1.out (.slice (some ⟨g3, 4, none⟩) 4 (c3 - 1))
        have HB := Lib.hid hB
        have HO4 := Lib.hid (HO3.out.trans hO)
        have HTL3 : Hid (∀ q ∈ l ++ [⟨(r : Int) + 1, t, ep, .slice none 0 0, []⟩], RowI (wc.setCell ⟨rb, 2, none⟩ (.slice (some ⟨g3, 4, none⟩) 4 (c3 - 1))) q.v q.told) := fun q hq =>
          (HTL2.out q (by rw [hL, List.cons_append]; exact List.mem_cons_of_mem _ hq)).beside K1.out (by decide) hO
        have HROW3 : Hid (QRow (wc.setCell ⟨rb, 2, none⟩ (.slice (some ⟨g3, 4, none⟩) 4 (c3 - 1))) n0 (.slice (some ⟨g3, 4, none⟩) 4 (c3 - 1)) (l ++ [⟨(r : Int) + 1, t, ep, .slice none 0 0, []⟩])) :=
          QRow.keep HROW2.out fun g5 cs hg => (hO.block g5 (lt_of_block hg) (fun e => by rw [e, K1.out] at hg; simp at hg)).trans hg
        have c5 : (5 : Int) ≤ (c3 : Int) := by have := hcap.1; omega
        have c1 := HC1.out
        have b1 : (wc.setCell ⟨rb, 2, none⟩ (.slice (some ⟨g3, 4, none⟩) 4 (c3 - 1))).cell? ⟨rb, 1, none⟩ = some (.int .i64 ((r : Int) + 1)) := rb_one HB.out
        clear hB hO hK2 hl4 hL HROW2 K2 HTL2 h4 HM
        go_wp2
        go_returns
        exact ⟨rfl, _, by rw [HAL.out]; exact ⟨by rw [HRR.out]; exact HB.out, HROW3.out, HTL3.out, HLOW.out⟩, HO4.out⟩
end Go.Proofs.Ytomjlhmkmihbeaa
