/-
  THE LOG's Commit, by contract. No condition but that a log has at most a million requests.
-/
import Derived.Test.YtenjjgghoacboaaLnC
namespace Go.Proofs.Ytenjjgghoacboaa
open Go.RowKit Go.Shelf

attribute [local go_sem] Oper.semAt_some

theorem Raw.cellsAt {w : World} {n g d : Nat} {vq vr : Value} {vp : Nat → Value} {q : Int} {last : Nat → Int} {L : List ReqV} {pls : Nat → List Int} {K : List RcV} {s : StoV} (h : Raw w n g d vq vr vp q last L pls K s) {x : Nat} (hx : LB g d vq vr vp x) : ∃ cs t, w.heap[x]? = some (.cells cs t (0, 0)) := by
  rcases hx with rfl | rfl | hx | hx | ⟨c, hc', hx⟩
  · obtain ⟨cs, hh, _⟩ := h.blk; exact ⟨_, _, hh⟩
  · obtain ⟨_, ⟨cs, hh, _⟩, _⟩ := h.sto; exact ⟨_, _, hh⟩
  · obtain ⟨cs, hh⟩ := h.row.kind hx; exact ⟨_, _, hh⟩
  · obtain ⟨cs, hh⟩ := h.reps.kind hx; exact ⟨_, _, hh⟩
  · obtain ⟨cs, hh⟩ := (h.pl c hc').kind hx; exact ⟨_, _, hh⟩
theorem keepsFrom18 {S : Nat → Prop} {W W' : World} (ho : Only S W W') (hc : ∀ x, S x → ∃ cs t, W.heap[x]? = some (.cells cs t (0, 0))) (B : Nat) : KeepsFrom B W W' :=
  ⟨ho.size, fun k o _ hk hcell => (ho.block k (lt_of_block hk) fun hs => by
    obtain ⟨cs, t, hh⟩ := hc k hs
    rw [hk] at hh
    cases hh
    cases hcell).trans hk⟩
theorem nobool_obj {W : World} {r : Nat} {o : Obj} (h : W.heap[r]? = some o) (hc : o.isCells = false) : NoBool W r := by
  intro k x hx
  cases o <;> simp [World.cell?, h] at hx hc
  all_goals cases hc
/-- A log stands where a block that holds no cells is turned. -/
theorem Raw.obj {w w' : World} {n g d : Nat} {vq vr : Value} {vp : Nat → Value} {q : Int} {last : Nat → Int} {L : List ReqV} {pls : Nat → List Int} {K : List RcV} {s : StoV} (h : Raw w n g d vq vr vp q last L pls K s) {row : Option Nat} (hg : w.grownBy w' row) (hr : ∀ r, row = some r → ∃ o : Obj, w.heap[r]? = some o ∧ o.isCells = false) : Raw w' n g d vq vr vp q last L pls K s := by
  refine h.keep (grown_only hg) (fun x hx e => ?_) (fun x e _ => ?_)
  · obtain ⟨o, ho, hc⟩ := hr x e
    have hk : ∃ cs t, w.heap[x]? = some (.cells cs t (0, 0)) := by
      rcases hx with rfl | rfl | hx | hx | ⟨c, hc', hx⟩
      · obtain ⟨cs, hh, _⟩ := h.blk; exact ⟨_, _, hh⟩
      · obtain ⟨_, ⟨cs, hh, _⟩, _⟩ := h.sto; exact ⟨_, _, hh⟩
      · obtain ⟨cs, hh⟩ := h.row.kind hx; exact ⟨_, _, hh⟩
      · obtain ⟨cs, hh⟩ := h.reps.kind hx; exact ⟨_, _, hh⟩
      · obtain ⟨cs, hh⟩ := (h.pl c hc').kind hx; exact ⟨_, _, hh⟩
    obtain ⟨cs, t, hh⟩ := hk
    rw [hh] at ho
    cases ho
    cases hc
  · obtain ⟨o, ho, hc⟩ := hr x e
    exact nobool_obj ho hc

/-- The log while some more of its requests are being committed: M are, in the world W; it began in w with the replies' row vr. -/
structure CI (w : World) (n g d : Nat) (vq vr : Value) (vp : Nat → Value) (q : Int) (L : List ReqV) (M : List ReqV) (W : World) : Prop where
  box : Boxed W w.heap.size 23 (.pointer (some ⟨g, 0, none⟩))
  raw : ∃ vr' K', Raw W n g d vq vr' vp q (lastL L) L (placesL L) K' (stoOf q M) ∧ K'.length = M.length ∧ (∀ k, k < K'.length → RepOf q M k (K'.getD k rc0)) ∧ ∀ x, vr'.ownBlock = some x → vr.ownBlock = some x ∨ w.heap.size + 4 ≤ x
  only : Only (LB g d vq vr vp) w W
  size : w.heap.size + 4 ≤ W.heap.size
theorem CI.obj {w W W' : World} {n g d : Nat} {vq vr : Value} {vp : Nat → Value} {q : Int} {L M : List ReqV} (h : CI w n g d vq vr vp q L M W) {row : Option Nat} (hg : W.grownBy W' row) (hr : ∀ r, row = some r → w.heap.size ≤ r ∧ ∃ o : Obj, W.heap[r]? = some o ∧ o.isCells = false) : CI w n g d vq vr vp q L M W' := by
  obtain ⟨vr', K', h1, h2, h3, h4⟩ := h.raw
  refine ⟨cells_row h.box hg (fun r e => (hr r e).2), ⟨vr', K', h1.obj hg (fun r e => (hr r e).2), h2, h3, h4⟩, h.only.then (grown_only hg) (fun x hx e => ?_), Nat.le_trans h.size hg.size⟩
  have := (hr x e).1
  omega
/-- What a Commit that is done leaves. -/
def LComR (n g d : Nat) (vq vr : Value) (vp : Nat → Value) (q : Int) (L : List ReqV) (m : Nat) (w : World) (w' : World) : Prop :=
  ∃ vr' K', Lin w' n g d vq vr' vp q L K' ∧ K'.length = m ∧ Only (LB g d vq vr vp) w w' ∧ ∀ x, LB g d vq vr' vp x → LB g d vq vr vp x ∨ w.heap.size ≤ x
theorem RepOf.cut {q : Int} {L : List ReqV} {m k : Nat} {r : RcV} (h : RepOf q (L.take m) k r) (hk : k < m) : RepOf q L k r := by
  obtain ⟨h1, h2, h3, h4⟩ := h
  have e : (L.take m).take k = L.take k := by rw [List.take_take, Nat.min_eq_left (by omega)]
  exact ⟨by rw [h1, e, atL_take hk], by rw [h2, e, atL_take hk], by rw [h3, e, atL_take hk], h4⟩

theorem info_Rep18 : (Try.prog.info? 48).map (fun i => (i.zero, i.size, i.bytes)) = some (some (.agg #[.int .i64 0, .int .i64 0, .string ⟨#[]⟩, .slice none 0 0]), 4, 56) := by kernel_rfl
theorem zb_rep : ∀ u ∈ (Value.agg #[.int .i64 0, .int .i64 0, .string ⟨#[]⟩, .slice none 0 0]).cells.toList, ∀ x, u ≠ .bool x := by
  intro u hu x
  simp [Value.cells] at hu
  rcases hu with rfl | rfl | rfl <;> simp
theorem rep_src {u : World} {p : Nat} {r : RcV} {a : Option Addr} {c : Nat} (hl : r.lst = .slice a 0 c) (hh : u.heap[p]? = some (.cells (rcC r).toArray 48 (0, 0))) : Src Try.prog 4 89 (.slice (some ⟨p, 0, none⟩) 1 1) 1 (rcC r) u := by
  refine Src.ofSlice _ Try.underlying89 ⟨p, 0, none⟩ 1 1 (rcC r) rfl ?_ fun u hu => ?_
  · intro j x hj
    rw [Addr.add_lit, Nat.zero_add, cell_of_row _ _ _ _ _ _ hh, List.getElem?_toArray]
    exact hj
  · simp only [rcC, List.mem_cons, List.not_mem_nil, or_false] at hu
    rcases hu with rfl | rfl | rfl | rfl
    · rfl
    · rfl
    · rfl
    · rw [hl]; rfl
/-- The log's store was turned, and the reply laid into a block of its own. -/
theorem e7 {W u : World} {n g d T : Nat} {vq vr : Value} {vp : Nat → Value} {q : Int} {last : Nat → Int} {L : List ReqV} {pls : Nat → List Int} {K : List RcV} {s s' : StoV} {cd vn : Int} {dt : ByteArray} {a : Option Addr} {c : Nat}
    (h : Raw W n g d vq vr vp q last L pls K s) (ho : Only (· = d) W u) (hs : Sto layP u d s') (hT : RepAt u T 0 0 ⟨#[]⟩ (.slice none 0 0)) (hTW : W.heap.size ≤ T) :
    Raw (stored u T cd vn dt (.slice a 0 c)) n g d vq vr vp q last L pls K s' ∧ Only (· = d) W (stored u T cd vn dt (.slice a 0 c)) ∧ RepAt (stored u T cd vn dt (.slice a 0 c)) T cd vn dt (.slice a 0 c) := by
  have h1 : Raw u n g d vq vr vp q last L pls K s' := h.setSto ⟨ho.os, ho.tape, ho.output, ho.size, ho.block⟩ hs
  have hb := stored_besides u T cd vn dt (.slice a 0 c)
  have hlt : ∀ x, LB g d vq vr vp x → x < W.heap.size := fun x hx => (h.all hx).2.1
  exact ⟨h1.keep hb.only (fun x hx e => by have := hlt x hx; omega) (fun x e _ => by subst e; exact hT.nobool (by simp)), ho.then hb.only (fun x hx e => by omega), rep_stored hT _⟩

set_option maxRecDepth 100000 in
set_option maxHeartbeats 4000000 in
theorem lcommit_in (m : Nat) (hm : 3 ≤ m) {w : World} {n g d : Nat} {vq vr : Value} {vp : Nat → Value} {q : Int} {L : List ReqV} {K : List RcV} (H : Lin w n g d vq vr vp q L K) (hL5 : L.length ≤ 100000) (hnw : n ≤ w.heap.size) (c : Nat) (hc1 : K.length ≤ c) (hc2 : c ≤ L.length) :
    CallsIn Fence.wide m Try.prog 21 #[.pointer (some ⟨g, 0, none⟩), .int .i64 c] w fun e w' => e = .returned (.int .i64 0) ∧ LComR n g d vq vr vp q L c w w' := by
  have hL : L.length ≤ 1000000 := by omega
  have h1 : 1 ≤ m := by omega
  have hro : Fence.wide.round = none := rfl
  obtain ⟨N, hN⟩ : ∃ N, N = L.length := ⟨_, rfl⟩
  obtain ⟨C, hC⟩ : ∃ C, C = K.length := ⟨_, rfl⟩
  have HOLD := Lib.hid H
  have H1 := Lib.hid (H.on ((Below.refl _ _).alloc (Nat.le_refl _) (.cells #[.pointer (some ⟨g, 0, none⟩)] 23)))
  obtain ⟨w1, hw1⟩ : ∃ w1, w1 = w.alloc (.cells #[.pointer (some ⟨g, 0, none⟩)] 23) := ⟨_, rfl⟩
  have HB1 : Hid (Below w.heap.size w w1) := by rw [hw1]; exact (Below.refl _ _).alloc (Nat.le_refl _) _
  have HX1 : Hid (Boxed w1 w.heap.size 23 (.pointer (some ⟨g, 0, none⟩))) := by rw [hw1]; exact Boxed.new w 23 _
  have hs1 : w1.heap.size = w.heap.size + 1 := by rw [hw1]; simp
  have HSZ1 := Lib.hid hs1
  rw [← hw1] at H1
  have HM : Hid (CallsIn Fence.wide (m - 1) Try.prog 58 #[.pointer (some ⟨g, 0, none⟩)] w1 fun e w' => e = .returned (.bool true) ∧ w1 = w') := callsIn_wide.2 (lmade_r H1.out)
  have HLN : Hid (CallsIn Fence.wide (m - 1) Try.prog 15 #[.pointer (some ⟨g, 0, none⟩)] w1 fun e w' => e = .returned (.int .i64 N) ∧ w1 = w') := by rw [hN]; exact callsIn_wide.2 (llen_r H1.out)
  have HCM : Hid (∀ k, CallsIn Fence.wide (m - 1) Try.prog 16 #[.pointer (some ⟨g, 0, none⟩)] (w1.drewN k) fun e w' => e = .returned (.int .i64 C) ∧ w1.drewN k = w') := by rw [hC]; exact fun k => callsIn_wide.2 (lcom_r (H1.out.drewN k))
  have HCP : Hid (∀ u, Below w1.heap.size w1 u → Calls Try.prog 16 #[.pointer (some ⟨g, 0, none⟩)] u fun e w' => e = .returned (.int .i64 C) ∧ u = w') := by rw [hC]; exact fun u hu => lcom_r (H1.out.on hu)
  have hC1 : (C : Int) ≤ (c : Int) := by omega
  have hN1 : (c : Int) ≤ (N : Int) := by omega
  have cb := HX1.out.cell
  have HNN := Lib.hid hN
  have HCC := Lib.hid hC
  have HW1 := Lib.hid hw1
  have HHC := Lib.hid (And.intro hc1 hc2)
  clear H hN hC hs1 hc1 hc2
  refine callsIn_of_wp_marks Try.func21 rfl trivial ?_ hro
  simp only [Try.ntmps21, List.size_toArray, List.length_cons, List.length_nil, Nat.reduceAdd, Nat.reduceSub, Array.replicate_succ, Array.replicate_zero, List.push_toArray, List.append_toArray, List.nil_append, List.cons_append]
  gi_wp2_with fail
  rw [← hw1]
  clear hw1
  refine ⟨trivial, HM.out.mono ?_⟩
  rintro e w2 ⟨rfl, rfl⟩
  gi_wp2_with fail
  refine ⟨trivial, (HCM.out 0).mono ?_⟩
  rintro e w2 ⟨rfl, rfl⟩
  gi_wp2_with fail
  refine ⟨trivial, HLN.out.mono ?_⟩
  rintro e w2 ⟨rfl, rfl⟩
  have hbl : w.heap.size < w1.heap.size := by have := HSZ1.out; omega
  have hN6 : N ≤ 1000000 := by rw [HNN.out]; exact hL
  have s1 : IntKind.i64.wrap ((c : Int) - (C : Int)) = (c : Int) - (C : Int) := by rw [IntKind.wrap_i64]; omega
  gi_wp2_with fail
  refine wpIn_wide.2 ?_
  go_region_held3 (fun u => u.cell? ⟨w.heap.size, 0, none⟩ = some (.pointer (some ⟨g, 0, none⟩))) (first | assumption | exact (Below.cell (w := w1) (p := ⟨w.heap.size, 0, none⟩) (by go_grown) hbl).trans cb | go_keep) (first
    | (go_at_call 16; (with_reducible refine (HCP.out _ (by go_grown)).mono ?_); rintro e w2 ⟨rfl, rfl⟩)
    | (go_at_call 57; (with_reducible refine (behind_any _ _ _ _).mono ?_); rintro e w2 ⟨rfl, rfl⟩))
  obtain ⟨b1, b2, b3, bb, bs⟩ := box3 w1 (.cells #[.pointer (some ⟨g, 0, none⟩)] 23) (.cells #[.int .i64 (C : Int)] 3) (.cells #[.int .i64 ((c : Int) - (C : Int))] 3)
  obtain ⟨w3, hw3⟩ : ∃ w3, w3 = (((w1.alloc (.cells #[.pointer (some ⟨g, 0, none⟩)] 23)).alloc (.cells #[.int .i64 (C : Int)] 3)).alloc (.cells #[.int .i64 ((c : Int) - (C : Int))] 3)).drew := ⟨_, rfl⟩
  have X1 : Hid (Boxed w3 w1.heap.size 23 (.pointer (some ⟨g, 0, none⟩))) := by rw [hw3]; exact b1
  have X2 : Hid (Boxed w3 (w1.heap.size + 1) 3 (.int .i64 (C : Int))) := by rw [hw3]; exact b2
  have X3 : Hid (Boxed w3 (w1.heap.size + 2) 3 (.int .i64 ((c : Int) - (C : Int)))) := by rw [hw3]; exact b3
  have HB3 : Hid (Below w1.heap.size w1 w3) := by rw [hw3]; exact bb.drew
  have HS3 : Hid (w3.heap.size = w1.heap.size + 3) := by rw [hw3]; exact bs
  rw [← hw3]
  clear hw3 b1 b2 b3 bb bs
  gi_wp2_with fail
  have hs1 := HSZ1.out
  have hs3 := HS3.out
  have hgw := HOLD.out.lt
  have hPR : ∀ k, vq.ownBlock = some k → k < w1.heap.size := fun k hk => by have := (HOLD.out.row.nb k hk).lt; omega
  have hgR : g < w1.heap.size := by omega
  have h64 : ∀ x ∈ L, x.data.size ≤ 64 := by
    intro x hx
    obtain ⟨k, hk, rfl⟩ := List.getElem_of_mem hx
    have h := (HOLD.out.ok k hk).1.1
    rw [atL_lt hk] at h
    unfold ReqV.may at h
    omega
  have hck := HCC.out
  have hI0 : CI w n g d vq vr vp q L (L.take C ++ ([] : List RqE).map (·.r)) w3 := by
    rw [List.map_nil, List.append_nil]
    have hkl : C ≤ L.length := by rw [HCC.out]; exact HOLD.out.kle
    refine ⟨(HB3.out.block _ (by omega)).trans HX1.out, ⟨vr, K, ?_, by rw [List.length_take, ← HCC.out]; omega, fun k hk => ?_, fun x hx => .inl hx⟩, .of (HB1.out.trans (HB3.out.mono (by omega))), by omega⟩
    · have := (H1.out.on HB3.out).raw
      rwa [← HCC.out] at this
    · obtain ⟨r1, r2, r3, r4⟩ := HOLD.out.rep k hk
      have e : (L.take C).take k = L.take k := by rw [List.take_take, Nat.min_eq_left (by omega)]
      exact ⟨by rw [e, atL_take (by omega)]; exact r1, by rw [e, atL_take (by omega)]; exact r2, by rw [e, atL_take (by omega)]; exact r3, r4⟩
  clear hck
  refine wpIn_rangeFunc_ownH hro h1 (gf := 94) (lb := #[.pointer (some ⟨w1.heap.size + 1, 0, none⟩), .pointer (some ⟨w1.heap.size, 0, none⟩), .pointer (some ⟨w1.heap.size + 2, 0, none⟩)]) rfl trivial (enters_of Try.func94 (by kernel_rfl) rfl)
    (behind_stopsE (m - 1) w1.heap.size (fun k => vq.ownBlock = some k) g (some ⟨g, 0, none⟩) C ((c : Int) - (C : Int)) L h64 w3 (by omega) (fun u hu => AskQ.of (H1.out.on (HB3.out.trans (hu.mono (by omega)))) hL _) X1.out X2.out X3.out)
    (fun h k => KeepQ.trans h k) (fun W l o o' hl ho h1 h2 => KeepQ.of hPR hgR ((belowK_b (w := w3) (Nat.le_refl _) W l o o' hl ho h1 h2).mono (by omega))) (Below.refl _ _) (fun _ => rfl)
    (fun pre W => CI w n g d vq vr vp q L (L.take C ++ pre.map (·.r)) W)
    (fun _ _ _ => False)
    (fun s X Y row hs hg hr => hs.obj hg (fun r e => ⟨by have := (hr r e).1; omega, (hr r e).2⟩))
    (fun _ _ _ _ _ hs _ _ => hs)
    hI0
    (fun x a' W => ∃ Bx, W.heap[Bx]? = some (.cells (reqC x.r).toArray 34 (0, 0)) ∧ a' = { tmps := #[.pointer (some ⟨g, 0, none⟩), .int .i64 (c : Int), .pointer (some ⟨w.heap.size, 0, none⟩), undef, .int .i64 0, .pointer (some ⟨Bx, 0, none⟩), undef, undef,
        .pointer (some ⟨g, 0, none⟩), .bool true, .bool false, .int .i64 (c : Int), .pointer (some ⟨g, 0, none⟩), .int .i64 (C : Int), .bool false, .bool false, .int .i64 (c : Int), .pointer (some ⟨g, 0, none⟩), .int .i64 (N : Int), .bool false, .bool false, .pointer (some ⟨g, 0, none⟩), .pointer (some ⟨g, 0, none⟩), .int .i64 (C : Int), .int .i64 (c : Int), .pointer (some ⟨g, 0, none⟩), .int .i64 (C : Int), .int .i64 ((c : Int) - (C : Int)),
        .func (.func 94) #[] #[.pointer (some ⟨w1.heap.size + 1, 0, none⟩), .pointer (some ⟨w1.heap.size, 0, none⟩), .pointer (some ⟨w1.heap.size + 2, 0, none⟩)], x.r.val, undef, undef, undef, undef, undef, undef, undef, undef, undef, undef, undef, undef, undef, undef, undef, undef, undef, undef, undef], defers := [] })
    (fun x a' => fun s X Y row ⟨Bx, hbx, ha⟩ hg hr => ⟨Bx, cells_row hbx hg (fun r e => (hr r e).2), ha⟩) ?assign ?body ?done ?stop
  case assign =>
    rintro l pre ⟨⟨cl, sq, kd, id, mt, dt⟩, h64'⟩ W K' hCI hK
    simp only [encE, encQ, ReqV.val]
    clear hs1 hs3
    gi_wp2
    have hs1 := HSZ1.out
    have hb1 : Below W.heap.size W (W.alloc (.cells #[.int .i64 cl, .int .i64 sq, .int .i64 kd, .int .i64 id, .int .i64 mt, .string dt] 34)) := (Below.refl _ W).alloc (Nat.le_refl _) _
    exact hK _ _ ((KeepsOthers.alloc _ _).from _) (KeepQ.of hPR hgR (hb1.mono (by have := hCI.size; omega))) (hCI.obj (World.grownBy_alloc W _ none) (fun r e => by cases e)) ⟨W.heap.size, heap_alloc_new W _, rfl⟩
  case body =>
    rintro l pre ⟨⟨cl, sq, kd, id, mt, dt⟩, h64'⟩ a' W hl ⟨rr, hr⟩ hCI ⟨Bx, bX, rfl⟩ hlt
    dsimp only [ReqV.val]
    have hLl : (L.take C ++ pre.map (·.r)).length ≤ 1000000 := by rw [List.length_append, List.length_take, List.length_map]; omega
    have hgR0 : g < w.heap.size := HOLD.out.lt
    have hdR0 : d < w.heap.size := HOLD.out.sto.lt
    clear hs1 hs3 s1 hlt hr HM HLN HCM HCP cb
    obtain ⟨vr1, K1, hraw, hkl, hrep, hvr⟩ := hCI.raw
    generalize hM : L.take C ++ pre.map (·.r) = M at hCI hraw hkl hrep hLl
    have HMM := Lib.hid hM
    have HCI := Lib.hid hCI
    have HRAW := Lib.hid hraw
    have HKL := Lib.hid hkl
    have HREP := Lib.hid hrep
    have HVR := Lib.hid hvr
    obtain ⟨A, hA⟩ : ∃ A, putA (stoOf q M) ⟨cl, sq, kd, id, mt, dt⟩ = A := ⟨_, rfl⟩
    obtain ⟨s', acd, avr, ad, ax⟩ := A
    have HSP : Hid (∀ u, Sto layP u d (stoOf q M) → Calls Try.prog 63 #[.pointer (some ⟨d, 0, none⟩), .agg #[.int .i64 cl, .int .i64 sq, .int .i64 kd, .int .i64 id, .int .i64 mt, .string dt]] u (PutR layP d s' acd avr ad ax u)) :=
      fun u hu => sput_r d (stoOf q M) s' M.length cl sq kd id mt dt acd avr ad ax hA (by unfold maxLen; simp only at h64'; omega) (stoOf_fit HOLD.out.quo.1 HOLD.out.quo.2 M) hLl u hu
    have HAA := Lib.hid hA
    clear hA
    gi_wp2_with fail
    have HBX := Lib.hid (show ReqB W Bx cl sq kd id mt dt from ⟨_, bX⟩)
    have HBXH := Lib.hid bX
    have HF7 : Hid (∀ u, Only (· = d) W u → (fun u => u.cell? ⟨w.heap.size, 0, none⟩ = some (.pointer (some ⟨g, 0, none⟩)) ∧ u.cell? ⟨g, 38, none⟩ = some (.pointer (some ⟨d, 0, none⟩)) ∧ u.cell? ⟨Bx, 0, none⟩ = some (.int .i64 cl) ∧ u.cell? ⟨Bx, 1, none⟩ = some (.int .i64 sq) ∧ u.cell? ⟨Bx, 2, none⟩ = some (.int .i64 kd) ∧ u.cell? ⟨Bx, 3, none⟩ = some (.int .i64 id) ∧ u.cell? ⟨Bx, 4, none⟩ = some (.int .i64 mt) ∧ u.cell? ⟨Bx, 5, none⟩ = some (.string dt)) u) := by
      intro u hu
      have hne1 : w.heap.size ≠ d := by omega
      have hne3 : Bx ≠ d := by
        intro e
        obtain ⟨_, ⟨cs, hcs, _⟩, _⟩ := HRAW.out.sto
        have hb := HBXH.out
        rw [e, hcs] at hb
        simp only [Option.some.injEq, Obj.cells.injEq] at hb
        exact absurd hb.2.1 (by decide)
      have hgd := HRAW.out.kinds.1
      obtain ⟨y0, y1, y2, y3, y4, y5⟩ := (HBX.out.only hu hne3).cells
      exact ⟨(hu.cell (p := ⟨w.heap.size, 0, none⟩) (by show w.heap.size < _; have := HCI.out.size; omega) hne1).trans HCI.out.box.cell, (hu.cell (p := ⟨g, 38, none⟩) HRAW.out.lt hgd).trans HRAW.out.cd, y0, y1, y2, y3, y4, y5⟩
    have hW0 : Only (· = d) W W.drew := Only.drew (Only.refl _ _)
    clear bX hCI hraw hkl hrep hvr hM
    refine wpIn_region_held (S := (fun u => u.cell? ⟨w.heap.size, 0, none⟩ = some (.pointer (some ⟨g, 0, none⟩)) ∧ u.cell? ⟨g, 38, none⟩ = some (.pointer (some ⟨d, 0, none⟩)) ∧ u.cell? ⟨Bx, 0, none⟩ = some (.int .i64 cl) ∧ u.cell? ⟨Bx, 1, none⟩ = some (.int .i64 sq) ∧ u.cell? ⟨Bx, 2, none⟩ = some (.int .i64 kd) ∧ u.cell? ⟨Bx, 3, none⟩ = some (.int .i64 id) ∧ u.cell? ⟨Bx, 4, none⟩ = some (.int .i64 mt) ∧ u.cell? ⟨Bx, 5, none⟩ = some (.string dt))) (by kernel_rfl) ?hnd ?hQ (HF7.out _ hW0) (fun hHeld => ?_)
    case hnd =>
      intro i o ho c
      rcases i with _ | _ | _ | _ | _ | _ | _ | _ | _ | _ | _ | _ | i
      all_goals first
        | (simp only [List.getElem?_toArray, List.getElem?_cons_zero, List.getElem?_cons_succ, List.getElem?_nil, Option.some.injEq] at ho; subst ho; exact fun h => by cases h)
        | (simp at ho)
    case hQ => rintro ⟨_, _, h⟩; exact h
    change wpAnyH _ _ _ _ _ 12 _ _ _
    first
      | (refine held_take 0 31 (v := ?_) rfl rfl (by kernel_rfl) (by kernel_rfl) (by kernel_rfl) (fun _ _ _ h => h) (by assumption) (by rfl) ?_ ?_; rotate_left; (focus (intro w hSw; (obtain ⟨z0, z1, z2, z3, z4, z5, z6, z7⟩ := hSw); go_simp <;> with_reducible rfl)))
      | refine held_pass 0 31 rfl rfl (by kernel_rfl) (by kernel_rfl) (by kernel_rfl) (fun _ _ _ h => h) (by assumption) (by rfl) ?_
    simp only [Act.put, List.setIfInBounds_toArray, List.set_cons_zero, List.set_cons_succ]
    first
      | (refine held_take 1 32 (v := ?_) rfl rfl (by kernel_rfl) (by kernel_rfl) (by kernel_rfl) (fun _ _ _ h => h) (by assumption) (by rfl) ?_ ?_; rotate_left; (focus (intro w hSw; (obtain ⟨z0, z1, z2, z3, z4, z5, z6, z7⟩ := hSw); go_simp <;> with_reducible rfl)))
      | refine held_pass 1 32 rfl rfl (by kernel_rfl) (by kernel_rfl) (by kernel_rfl) (fun _ _ _ h => h) (by assumption) (by rfl) ?_
    simp only [Act.put, List.setIfInBounds_toArray, List.set_cons_zero, List.set_cons_succ]
    first
      | (refine held_take 2 33 (v := ?_) rfl rfl (by kernel_rfl) (by kernel_rfl) (by kernel_rfl) (fun _ _ _ h => h) (by assumption) (by rfl) ?_ ?_; rotate_left; (focus (intro w hSw; (obtain ⟨z0, z1, z2, z3, z4, z5, z6, z7⟩ := hSw); go_simp <;> with_reducible rfl)))
      | refine held_pass 2 33 rfl rfl (by kernel_rfl) (by kernel_rfl) (by kernel_rfl) (fun _ _ _ h => h) (by assumption) (by rfl) ?_
    simp only [Act.put, List.setIfInBounds_toArray, List.set_cons_zero, List.set_cons_succ]
    first
      | (refine held_take 3 34 (v := ?_) rfl rfl (by kernel_rfl) (by kernel_rfl) (by kernel_rfl) (fun _ _ _ h => h) (by assumption) (by rfl) ?_ ?_; rotate_left; (focus (intro w hSw; (obtain ⟨z0, z1, z2, z3, z4, z5, z6, z7⟩ := hSw); go_simp <;> with_reducible rfl)))
      | refine held_pass 3 34 rfl rfl (by kernel_rfl) (by kernel_rfl) (by kernel_rfl) (fun _ _ _ h => h) (by assumption) (by rfl) ?_
    simp only [Act.put, List.setIfInBounds_toArray, List.set_cons_zero, List.set_cons_succ]
    first
      | (refine held_take 4 35 (v := ?_) rfl rfl (by kernel_rfl) (by kernel_rfl) (by kernel_rfl) (fun _ _ _ h => h) (by assumption) (by rfl) ?_ ?_; rotate_left; (focus (intro w hSw; (obtain ⟨z0, z1, z2, z3, z4, z5, z6, z7⟩ := hSw); go_simp <;> with_reducible rfl)))
      | refine held_pass 4 35 rfl rfl (by kernel_rfl) (by kernel_rfl) (by kernel_rfl) (fun _ _ _ h => h) (by assumption) (by rfl) ?_
    simp only [Act.put, List.setIfInBounds_toArray, List.set_cons_zero, List.set_cons_succ]
    obtain ⟨u0, hu0⟩ : ∃ u, u = W.drew := ⟨_, rfl⟩
    have HU0 : Hid (Only (· = d) W u0) := by rw [hu0]; exact hW0
    have HSZ0 : Hid (u0.heap.size = W.heap.size) := by rw [hu0]; rfl
    have HB0 : Hid (Below W.heap.size W u0) := by rw [hu0]; exact (Below.refl _ _).drew
    rw [← hu0] at hHeld ⊢
    clear hu0 hW0
    have HR0 : Hid (Raw u0 n g d vq vr1 vp q (lastL L) L (placesL L) K1 (stoOf q M)) := HRAW.out.on HB0.out
    refine wpAnyH_ready (rs := [5, 9]) (by kernel_rfl) (by simp) (AllReadyH.cons rfl (fun K hK => ?_) (AllReadyH.cons rfl (fun K hK => ?_) AllReadyH.nil))
    focus
      try simp only [Go.wp_at_succ, Go.wp_at_zero]
      go_simp
      refine (HSP.out _ HR0.out.sto).mono ?_
      rintro e u1 ⟨ao, cap, rfl, hnl, hbs, hst⟩
      have HO1 : Hid (Only (· = d) W u1) := HU0.out.trans hbs.only
      have HST := Lib.hid hst
      have HNL := Lib.hid hnl
      clear hnl hbs hst
      refine hK.out _ _ (HF7.out _ HO1.out) (fun hHeld => ?_)
      clear hK K
      try simp only [Act.put, List.setIfInBounds_toArray, List.set_cons_zero, List.set_cons_succ]
      first
        | (refine held_take 6 30 (v := ?_) rfl rfl (by kernel_rfl) (by kernel_rfl) (by kernel_rfl) (fun _ _ _ h => h) (by assumption) (by rfl) ?_ ?_; rotate_left; (focus (intro w hSw; (obtain ⟨z0, z1, z2, z3, z4, z5, z6, z7⟩ := hSw); go_simp <;> with_reducible rfl)))
        | refine held_pass 6 30 rfl rfl (by kernel_rfl) (by kernel_rfl) (by kernel_rfl) (fun _ _ _ h => h) (by assumption) (by rfl) ?_
      simp only [Act.put, List.setIfInBounds_toArray, List.set_cons_zero, List.set_cons_succ]
      first
        | (refine held_take 7 37 (v := ?_) rfl rfl (by kernel_rfl) (by kernel_rfl) (by kernel_rfl) (fun _ _ _ h => h) (by assumption) (by rfl) ?_ ?_; rotate_left; (focus (intro w hSw; (obtain ⟨z0, z1, z2, z3, z4, z5, z6, z7⟩ := hSw); go_simp <;> with_reducible rfl)))
        | refine held_pass 7 37 rfl rfl (by kernel_rfl) (by kernel_rfl) (by kernel_rfl) (fun _ _ _ h => h) (by assumption) (by rfl) ?_
      simp only [Act.put, List.setIfInBounds_toArray, List.set_cons_zero, List.set_cons_succ]
      first
        | (refine held_take 8 38 (v := ?_) rfl rfl (by kernel_rfl) (by kernel_rfl) (by kernel_rfl) (fun _ _ _ h => h) (by assumption) (by rfl) ?_ ?_; rotate_left; (focus (intro w hSw; (obtain ⟨z0, z1, z2, z3, z4, z5, z6, z7⟩ := hSw); go_simp <;> with_reducible rfl)))
        | refine held_pass 8 38 rfl rfl (by kernel_rfl) (by kernel_rfl) (by kernel_rfl) (fun _ _ _ h => h) (by assumption) (by rfl) ?_
      simp only [Act.put, List.setIfInBounds_toArray, List.set_cons_zero, List.set_cons_succ]
      refine wpAnyH_ready (rs := [9]) (by kernel_rfl) (by simp) (AllReadyH.cons rfl (fun K hK => ?_) AllReadyH.nil)
      try simp only [Go.wp_at_succ, Go.wp_at_zero]
      go_simp
      have HO2 : Hid (Only (· = d) W (u1.alloc (.cells #[.int .i64 0, .int .i64 0, .string ⟨#[]⟩, .slice none 0 0] 48))) := HO1.out.trans (Only.alloc _ _ _)
      refine hK.out _ _ (HF7.out _ HO2.out) (fun hHeld => ?_)
      clear hK K
      try simp only [Act.put, List.setIfInBounds_toArray, List.set_cons_zero, List.set_cons_succ]
      have HT := Lib.hid (RepAt.new u1 0 0 ⟨#[]⟩ (.slice none 0 0))
      have HS2 := Lib.hid (HST.out.alloc (.cells #[.int .i64 0, .int .i64 0, .string ⟨#[]⟩, .slice none 0 0] 48))
      have HTW : Hid (W.heap.size ≤ u1.heap.size) := HO1.out.size
      obtain ⟨T, hT⟩ : ∃ T, T = u1.heap.size := ⟨_, rfl⟩
      obtain ⟨u2, hu2⟩ : ∃ u, u = u1.alloc (.cells #[.int .i64 0, .int .i64 0, .string ⟨#[]⟩, .slice none 0 0] 48) := ⟨_, rfl⟩
      rw [← hu2] at HO2 HT HS2 hHeld ⊢
      rw [← hT] at HT HTW ⊢
      clear hu2 hT HO1 HST
      obtain ⟨E1, E2, E3⟩ := e7 (cd := acd) (vn := avr) (dt := ad) (a := ao) (c := cap) HRAW.out HO2.out HS2.out HT.out HTW.out
      have HE1 := Lib.hid E1
      have HE2 := Lib.hid E2
      have HE3 := Lib.hid E3
      obtain ⟨⟨t0, t1, t2, t3⟩, ⟨s0, s1, s2, s3⟩⟩ := HT.out.cells
      clear E1 E2 E3
      refine wpAnyH_ready (rs := [10]) (by kernel_rfl) (by simp) (AllReadyH.cons rfl (fun K hK => ?_) AllReadyH.nil)
      try simp only [Go.wp_at_succ, Go.wp_at_zero]
      go_simp
      refine hK.out _ _ (HF7.out (stored u2 T acd avr ad (.slice ao 0 cap)) HE2.out) (fun hHeld => ?_)
      clear hK K t0 t1 t2 t3 s0 s1 s2 s3
      try simp only [Act.put]
      obtain ⟨u3, hu3⟩ : ∃ u, u = stored u2 T acd avr ad (.slice ao 0 cap) := ⟨_, rfl⟩
      change wpAnyH _ _ _ _ _ _ _ _ (stored u2 T acd avr ad (.slice ao 0 cap))
      rw [← hu3] at HE1 HE2 HE3 ⊢
      clear hu3 hHeld
      have hHeld := HF7.out _ HE2.out
      first
        | (refine held_take 11 7 (v := ?_) rfl rfl (by kernel_rfl) (by kernel_rfl) (by kernel_rfl) (fun _ _ _ h => h) (by assumption) (by rfl) ?_ ?_; rotate_left; (focus (intro w hSw; (obtain ⟨z0, z1, z2, z3, z4, z5, z6, z7⟩ := hSw); go_simp <;> with_reducible rfl)))
        | refine held_pass 11 7 rfl rfl (by kernel_rfl) (by kernel_rfl) (by kernel_rfl) (fun _ _ _ h => h) (by assumption) (by rfl) ?_
      simp only [Act.put, List.setIfInBounds_toArray, List.set_cons_zero, List.set_cons_succ]
      refine wpAnyH_done (by kernel_rfl) ?_ _
      clear hHeld
    rotate_left
    focus
      try simp only [Go.wp_at_succ, Go.wp_at_zero]
      go_simp
      have HO1 : Hid (Only (· = d) W (u0.alloc (.cells #[.int .i64 0, .int .i64 0, .string ⟨#[]⟩, .slice none 0 0] 48))) := HU0.out.trans (Only.alloc _ _ _)
      refine hK.out _ _ (HF7.out _ HO1.out) (fun hHeld => ?_)
      clear hK K
      try simp only [Act.put, List.setIfInBounds_toArray, List.set_cons_zero, List.set_cons_succ]
      have HT1 := Lib.hid (RepAt.new u0 0 0 ⟨#[]⟩ (.slice none 0 0))
      have HS1 := Lib.hid (HR0.out.sto.alloc (.cells #[.int .i64 0, .int .i64 0, .string ⟨#[]⟩, .slice none 0 0] 48))
      have HTW : Hid (W.heap.size ≤ u0.heap.size) := HU0.out.size
      obtain ⟨T, hT⟩ : ∃ T, T = u0.heap.size := ⟨_, rfl⟩
      obtain ⟨u1, hu1⟩ : ∃ u, u = u0.alloc (.cells #[.int .i64 0, .int .i64 0, .string ⟨#[]⟩, .slice none 0 0] 48) := ⟨_, rfl⟩
      rw [← hu1] at HO1 HT1 HS1 hHeld ⊢
      rw [← hT] at HT1 HTW ⊢
      clear hu1 hT
      refine wpAnyH_ready (rs := [5]) (by kernel_rfl) (by simp) (AllReadyH.cons rfl (fun K hK => ?_) AllReadyH.nil)
      try simp only [Go.wp_at_succ, Go.wp_at_zero]
      go_simp
      refine (HSP.out _ HS1.out).mono ?_
      rintro e u2 ⟨ao, cap, rfl, hnl, hbs, hst⟩
      have HO2 : Hid (Only (· = d) W u2) := HO1.out.trans hbs.only
      have HS2 := Lib.hid hst
      have HNL := Lib.hid hnl
      have HT := Lib.hid (HT1.out.besides hbs (by have := HTW.out; have := HRAW.out.sto.lt; omega))
      clear hnl hbs hst HT1 HS1
      refine hK.out _ _ (HF7.out _ HO2.out) (fun hHeld => ?_)
      clear hK K
      try simp only [Act.put, List.setIfInBounds_toArray, List.set_cons_zero, List.set_cons_succ]
      first
        | (refine held_take 6 30 (v := ?_) rfl rfl (by kernel_rfl) (by kernel_rfl) (by kernel_rfl) (fun _ _ _ h => h) (by assumption) (by rfl) ?_ ?_; rotate_left; (focus (intro w hSw; (obtain ⟨z0, z1, z2, z3, z4, z5, z6, z7⟩ := hSw); go_simp <;> with_reducible rfl)))
        | refine held_pass 6 30 rfl rfl (by kernel_rfl) (by kernel_rfl) (by kernel_rfl) (fun _ _ _ h => h) (by assumption) (by rfl) ?_
      simp only [Act.put, List.setIfInBounds_toArray, List.set_cons_zero, List.set_cons_succ]
      first
        | (refine held_take 7 37 (v := ?_) rfl rfl (by kernel_rfl) (by kernel_rfl) (by kernel_rfl) (fun _ _ _ h => h) (by assumption) (by rfl) ?_ ?_; rotate_left; (focus (intro w hSw; (obtain ⟨z0, z1, z2, z3, z4, z5, z6, z7⟩ := hSw); go_simp <;> with_reducible rfl)))
        | refine held_pass 7 37 rfl rfl (by kernel_rfl) (by kernel_rfl) (by kernel_rfl) (fun _ _ _ h => h) (by assumption) (by rfl) ?_
      simp only [Act.put, List.setIfInBounds_toArray, List.set_cons_zero, List.set_cons_succ]
      first
        | (refine held_take 8 38 (v := ?_) rfl rfl (by kernel_rfl) (by kernel_rfl) (by kernel_rfl) (fun _ _ _ h => h) (by assumption) (by rfl) ?_ ?_; rotate_left; (focus (intro w hSw; (obtain ⟨z0, z1, z2, z3, z4, z5, z6, z7⟩ := hSw); go_simp <;> with_reducible rfl)))
        | refine held_pass 8 38 rfl rfl (by kernel_rfl) (by kernel_rfl) (by kernel_rfl) (fun _ _ _ h => h) (by assumption) (by rfl) ?_
      simp only [Act.put, List.setIfInBounds_toArray, List.set_cons_zero, List.set_cons_succ]
      obtain ⟨E1, E2, E3⟩ := e7 (cd := acd) (vn := avr) (dt := ad) (a := ao) (c := cap) HRAW.out HO2.out HS2.out HT.out HTW.out
      have HE1 := Lib.hid E1
      have HE2 := Lib.hid E2
      have HE3 := Lib.hid E3
      obtain ⟨⟨t0, t1, t2, t3⟩, ⟨s0, s1, s2, s3⟩⟩ := HT.out.cells
      clear E1 E2 E3
      refine wpAnyH_ready (rs := [10]) (by kernel_rfl) (by simp) (AllReadyH.cons rfl (fun K hK => ?_) AllReadyH.nil)
      try simp only [Go.wp_at_succ, Go.wp_at_zero]
      go_simp
      refine hK.out _ _ (HF7.out (stored u2 T acd avr ad (.slice ao 0 cap)) HE2.out) (fun hHeld => ?_)
      clear hK K t0 t1 t2 t3 s0 s1 s2 s3
      try simp only [Act.put]
      obtain ⟨u3, hu3⟩ : ∃ u, u = stored u2 T acd avr ad (.slice ao 0 cap) := ⟨_, rfl⟩
      change wpAnyH _ _ _ _ _ _ _ _ (stored u2 T acd avr ad (.slice ao 0 cap))
      rw [← hu3] at HE1 HE2 HE3 ⊢
      clear hu3 hHeld
      have hHeld := HF7.out _ HE2.out
      first
        | (refine held_take 11 7 (v := ?_) rfl rfl (by kernel_rfl) (by kernel_rfl) (by kernel_rfl) (fun _ _ _ h => h) (by assumption) (by rfl) ?_ ?_; rotate_left; (focus (intro w hSw; (obtain ⟨z0, z1, z2, z3, z4, z5, z6, z7⟩ := hSw); go_simp <;> with_reducible rfl)))
        | refine held_pass 11 7 rfl rfl (by kernel_rfl) (by kernel_rfl) (by kernel_rfl) (fun _ _ _ h => h) (by assumption) (by rfl) ?_
      simp only [Act.put, List.setIfInBounds_toArray, List.set_cons_zero, List.set_cons_succ]
      refine wpAnyH_done (by kernel_rfl) ?_ _
      clear hHeld
    all_goals
      have HK1 : Hid (∀ x, vr1.ownBlock = some x → x < W.heap.size ∧ x ≠ w.heap.size) := by
        intro x hx
        refine ⟨(HRAW.out.all (.inr (.inr (.inr (.inl hx))))).2.1, fun ex => ?_⟩
        rcases HVR.out x hx with h | h
        · have := (HOLD.out.all (.inr (.inr (.inr (.inl h))))).2.1; omega
        · omega
      have HF8 : Hid (∀ u, Only (fun x => x = g ∨ vr1.ownBlock = some x) u3 u → (fun u => u.cell? ⟨w.heap.size, 0, none⟩ = some (.pointer (some ⟨g, 0, none⟩)) ∧ u.cell? ⟨T, 0, none⟩ = some (.int .i64 acd) ∧ u.cell? ⟨T, 1, none⟩ = some (.int .i64 avr) ∧ u.cell? ⟨T, 2, none⟩ = some (.string ad) ∧ u.cell? ⟨T, 3, none⟩ = some (.slice ao 0 cap)) u) := by
        intro u hu
        have hb3 := (HF7.out _ HE2.out).1
        have hsz3 := HE2.out.size
        have hT3 := HE3.out.lt
        have hTW := HTW.out
        have hsz := HCI.out.size
        obtain ⟨y0, y1, y2, y3⟩ := HE3.out.cells.1
        have hnT : ¬ (T = g ∨ vr1.ownBlock = some T) := by
          rintro (h | h)
          · omega
          · have := (HK1.out T h).1; omega
        have hnB : ¬ (w.heap.size = g ∨ vr1.ownBlock = some w.heap.size) := by
          rintro (h | h)
          · omega
          · exact (HK1.out _ h).2 rfl
        exact ⟨(hu.cell (p := ⟨w.heap.size, 0, none⟩) (by show w.heap.size < _; omega) hnB).trans hb3, (hu.cell (p := ⟨T, 0, none⟩) hT3 hnT).trans y0, (hu.cell (p := ⟨T, 1, none⟩) hT3 hnT).trans y1, (hu.cell (p := ⟨T, 2, none⟩) hT3 hnT).trans y2, (hu.cell (p := ⟨T, 3, none⟩) hT3 hnT).trans y3⟩
      obtain ⟨ra, rc, hrc⟩ := own_shape HE1.out.reps.own
      obtain ⟨PP, hPP⟩ : ∃ PP, PP = K1.length := ⟨_, rfl⟩
      rw [← hPP] at hrc
      have HPP := Lib.hid hPP
      have HRC := Lib.hid hrc
      have hP6 : PP ≤ 1000000 := by rw [hPP, HKL.out]; exact hLl
      have hg3 : g < u3.heap.size := HE1.out.lt
      have hnw3 : n ≤ u3.heap.size := Nat.le_trans hnw (by have := HCI.out.size; have := HE2.out.size; omega)
      clear hPP hrc
      gi_wp2_with fail
      refine wpIn_region_held (S := (fun u => u.cell? ⟨w.heap.size, 0, none⟩ = some (.pointer (some ⟨g, 0, none⟩)) ∧ u.cell? ⟨T, 0, none⟩ = some (.int .i64 acd) ∧ u.cell? ⟨T, 1, none⟩ = some (.int .i64 avr) ∧ u.cell? ⟨T, 2, none⟩ = some (.string ad) ∧ u.cell? ⟨T, 3, none⟩ = some (.slice ao 0 cap))) (by kernel_rfl) ?hnd ?hQ (HF8.out _ (Only.drew (Only.refl _ _))) (fun hHeld => ?_)
      case hnd =>
        intro i o ho c
        rcases i with _ | _ | _ | _ | _ | _ | _ | _ | _ | _ | _ | i
        all_goals first
          | (simp only [List.getElem?_toArray, List.getElem?_cons_zero, List.getElem?_cons_succ, List.getElem?_nil, Option.some.injEq] at ho; subst ho; exact fun h => by cases h)
          | (simp at ho)
      case hQ => rintro ⟨_, _, h⟩; exact h
      change wpAnyH _ _ _ _ _ 11 _ _ _
      first
        | (refine held_take 0 39 (v := ?_) rfl rfl (by kernel_rfl) (by kernel_rfl) (by kernel_rfl) (fun _ _ _ h => h) (by assumption) (by rfl) ?_ ?_; rotate_left; (focus (intro w hSw; (obtain ⟨z0, z1, z2, z3, z4⟩ := hSw); go_simp <;> with_reducible rfl)))
        | refine held_pass 0 39 rfl rfl (by kernel_rfl) (by kernel_rfl) (by kernel_rfl) (fun _ _ _ h => h) (by assumption) (by rfl) ?_
      simp only [Act.put, List.setIfInBounds_toArray, List.set_cons_zero, List.set_cons_succ]
      first
        | (refine held_take 1 40 (v := ?_) rfl rfl (by kernel_rfl) (by kernel_rfl) (by kernel_rfl) (fun _ _ _ h => h) (by assumption) (by rfl) ?_ ?_; rotate_left; (focus (intro w hSw; (obtain ⟨z0, z1, z2, z3, z4⟩ := hSw); go_simp <;> with_reducible rfl)))
        | refine held_pass 1 40 rfl rfl (by kernel_rfl) (by kernel_rfl) (by kernel_rfl) (fun _ _ _ h => h) (by assumption) (by rfl) ?_
      simp only [Act.put, List.setIfInBounds_toArray, List.set_cons_zero, List.set_cons_succ]
      first
        | (refine held_take 2 41 (v := ?_) rfl rfl (by kernel_rfl) (by kernel_rfl) (by kernel_rfl) (fun _ _ _ h => h) (by assumption) (by rfl) ?_ ?_; rotate_left; (focus (intro w hSw; (obtain ⟨z0, z1, z2, z3, z4⟩ := hSw); go_simp <;> with_reducible rfl)))
        | refine held_pass 2 41 rfl rfl (by kernel_rfl) (by kernel_rfl) (by kernel_rfl) (fun _ _ _ h => h) (by assumption) (by rfl) ?_
      simp only [Act.put, List.setIfInBounds_toArray, List.set_cons_zero, List.set_cons_succ]
      first
        | (refine held_take 3 42 (v := ?_) rfl rfl (by kernel_rfl) (by kernel_rfl) (by kernel_rfl) (fun _ _ _ h => h) (by assumption) (by rfl) ?_ ?_; rotate_left; (focus (intro w hSw; (obtain ⟨z0, z1, z2, z3, z4⟩ := hSw); go_simp <;> with_reducible rfl)))
        | refine held_pass 3 42 rfl rfl (by kernel_rfl) (by kernel_rfl) (by kernel_rfl) (fun _ _ _ h => h) (by assumption) (by rfl) ?_
      simp only [Act.put, List.setIfInBounds_toArray, List.set_cons_zero, List.set_cons_succ]
      first
        | (refine held_take 5 44 (v := ?_) rfl rfl (by kernel_rfl) (by kernel_rfl) (by kernel_rfl) (fun _ _ _ h => h) (by assumption) (by rfl) ?_ ?_; rotate_left; (focus (intro w hSw; (obtain ⟨z0, z1, z2, z3, z4⟩ := hSw); go_simp <;> with_reducible rfl)))
        | refine held_pass 5 44 rfl rfl (by kernel_rfl) (by kernel_rfl) (by kernel_rfl) (fun _ _ _ h => h) (by assumption) (by rfl) ?_
      simp only [Act.put, List.setIfInBounds_toArray, List.set_cons_zero, List.set_cons_succ]
      obtain ⟨e0, he0⟩ : ∃ u, u = u3.drew := ⟨_, rfl⟩
      have HB0e : Hid (Below u3.heap.size u3 e0) := by rw [he0]; exact (Below.refl _ _).drew
      have HSZe : Hid (e0.heap.size = u3.heap.size) := by rw [he0]; rfl
      rw [← he0] at hHeld ⊢
      clear he0
      have l0 : e0.cell? ⟨g, 39, none⟩ = some (.slice ra PP rc) := by rw [← HRC.out]; exact (HB0e.out.cell (p := ⟨g, 39, none⟩) hg3).trans HE1.out.cr.1
      have HA8 : Hid (∀ E6, E6 = e0.alloc (.cells #[.int .i64 acd, .int .i64 avr, .string ad, .slice ao 0 cap] 48) → Below u3.heap.size u3 E6 ∧ E6.cell? ⟨g, 39, none⟩ = some (.slice ra PP rc) ∧ Src Try.prog 4 89 (.slice (some ⟨e0.heap.size, 0, none⟩) 1 1) 1 (rcC ⟨acd, avr, ad, .slice ao 0 cap⟩) E6) := by
        have hze := HSZe.out
        rintro E6 rfl
        have hb : Below e0.heap.size e0 (e0.alloc (.cells #[.int .i64 acd, .int .i64 avr, .string ad, .slice ao 0 cap] 48)) := (Below.refl _ _).alloc (Nat.le_refl _) _
        exact ⟨HB0e.out.trans (hb.mono (by omega)), (hb.cell (p := ⟨g, 39, none⟩) (show g < _ by omega)).trans l0, rep_src rfl (heap_alloc_new e0 _)⟩
      refine wpAnyH_ready (rs := [4, 6]) (by kernel_rfl) (by simp) (AllReadyH.cons rfl (fun K hK => ?_) (AllReadyH.cons rfl (fun K hK => ?_) AllReadyH.nil))
      focus
        try simp only [Go.wp_at_succ, Go.wp_at_zero]
        go_simp
        refine hK.out _ _ hHeld (fun hHeld => ?_)
        clear hK K
        try simp only [Act.put, List.setIfInBounds_toArray, List.set_cons_zero, List.set_cons_succ]
        refine wpAnyH_ready (rs := [6]) (by kernel_rfl) (by simp) (AllReadyH.cons rfl (fun K hK => ?_) AllReadyH.nil)
        try simp only [Go.wp_at_succ, Go.wp_at_zero]
        go_simp
        refine hK.out _ _ (HF8.out _ (.of (HA8.out _ rfl).1)) (fun hHeld => ?_)
        clear hK K
        try simp only [Act.put, List.setIfInBounds_toArray, List.set_cons_zero, List.set_cons_succ]
        obtain ⟨E6, hE6⟩ : ∃ E6, E6 = e0.alloc (.cells #[.int .i64 acd, .int .i64 avr, .string ad, .slice ao 0 cap] 48) := ⟨_, rfl⟩
        rw [← hE6] at hHeld ⊢
        obtain ⟨b6, l1, s1⟩ := HA8.out E6 hE6
        have HB6 := Lib.hid b6
        have HSrc := Lib.hid s1
        clear hE6 b6 s1
        refine wpAnyH_ready (rs := [7]) (by kernel_rfl) (by simp) (AllReadyH.cons rfl (fun K hK => ?_) AllReadyH.nil)
        have HR6 := Lib.hid (HE1.out.on HB6.out)
        have hRowP : Hid (ORow E6 n 48 4 (.slice ra PP rc) PP (rcCs K1)) := by have h := HR6.out.reps; rwa [← HPP.out, HRC.out] at h
        obtain ⟨i9, hi9, hz9, hz91, hz92⟩ := info_parts info_Rep18
        refine step_append_or rfl (.tmp 43) (.tmp 45) 89 89 rfl n 48 i9 (.agg #[.int .i64 0, .int .i64 0, .string ⟨#[]⟩, .slice none 0 0]) 4 56 Try.underlying89 hi9 hz9 hz91 hz92 rfl zb_rep (.slice ra PP rc) PP (rcCs K1) rfl hRowP.out (.slice (some ⟨e0.heap.size, 0, none⟩) 1 1) 1 (rcC ⟨acd, avr, ad, .slice ao 0 cap⟩) rfl HSrc.out (rcC_nobool _ HNL.out) (by unfold maxLen; omega) (by omega) (Nat.le_trans hnw3 HB6.out.size) ?_
        intro v3 w8 O8 G8 V8
        have O8' := O8
        rw [HPP.out] at O8'
        obtain ⟨R9, x1, y1⟩ := HR6.out.setRep (r := ⟨acd, avr, ad, .slice ao 0 cap⟩) O8' (by rw [HRC.out]; exact G8) (by rw [HRC.out]; exact V8)
        rw [HRC.out] at x1
        have HO8 : Hid (Only (fun x => x = g ∨ vr1.ownBlock = some x) u3 w8) := (Only.of HB6.out).then (grown_only G8) (fun x _ hx => .inr (by rw [HRC.out]; exact hx))
        have HO9 : Hid (Only (fun x => x = g ∨ vr1.ownBlock = some x) u3 (w8.setCell ⟨g, 39, none⟩ v3)) := HO8.out.then (Only.set g 39 w8 v3) (fun x _ hx => .inl hx)
        have HV9 : Hid (∀ x, v3.ownBlock = some x → vr1.ownBlock = some x ∨ w.heap.size + 4 ≤ x) := fun x hx => (V8 x hx).imp (fun h => by rw [HRC.out]; exact h) (fun h => by have := HB6.out.size; have := HE2.out.size; have := HCI.out.size; omega)
        obtain ⟨a3, c3, rfl⟩ := own_shape O8.own
        have HR9 := Lib.hid R9
        clear O8 O8' G8 V8 R9
        refine hK.out _ _ (HF8.out _ HO8.out) (fun hHeld => ?_)
        clear hK K
        try simp only [Act.put]
        try simp only [List.setIfInBounds_toArray]
        try simp only [Act.put, List.setIfInBounds_toArray, List.set_cons_zero, List.set_cons_succ]
        first
          | (refine held_take 8 47 (v := ?_) rfl rfl (by kernel_rfl) (by kernel_rfl) (by kernel_rfl) (fun _ _ _ h => h) (by assumption) (by rfl) ?_ ?_; rotate_left; (focus (intro w hSw; (obtain ⟨z0, z1, z2, z3, z4⟩ := hSw); go_simp <;> with_reducible rfl)))
          | refine held_pass 8 47 rfl rfl (by kernel_rfl) (by kernel_rfl) (by kernel_rfl) (fun _ _ _ h => h) (by assumption) (by rfl) ?_
        simp only [Act.put]
        first
          | (refine held_take 9 48 (v := ?_) rfl rfl (by kernel_rfl) (by kernel_rfl) (by kernel_rfl) (fun _ _ _ h => h) (by assumption) (by rfl) ?_ ?_; rotate_left; (focus (intro w hSw; (obtain ⟨z0, z1, z2, z3, z4⟩ := hSw); go_simp <;> with_reducible rfl)))
          | refine held_pass 9 48 rfl rfl (by kernel_rfl) (by kernel_rfl) (by kernel_rfl) (fun _ _ _ h => h) (by assumption) (by rfl) ?_
        simp only [Act.put]
        refine wpAnyH_ready (rs := [10]) (by kernel_rfl) (by simp) (AllReadyH.cons rfl (fun K hK => ?_) AllReadyH.nil)
        try simp only [Go.wp_at_succ, Go.wp_at_zero]
        go_simp
        refine hK.out _ _ (HF8.out _ HO9.out) (fun hHeld => ?_)
        clear hK K
        try simp only [Act.put]
        refine wpAnyH_done (by kernel_rfl) ?_ _
        clear hHeld x1 y1 hRowP l1
      rotate_left
      focus
        try simp only [Go.wp_at_succ, Go.wp_at_zero]
        go_simp
        refine hK.out _ _ (HF8.out _ (.of (HA8.out _ rfl).1)) (fun hHeld => ?_)
        clear hK K
        try simp only [Act.put, List.setIfInBounds_toArray, List.set_cons_zero, List.set_cons_succ]
        obtain ⟨E6, hE6⟩ : ∃ E6, E6 = e0.alloc (.cells #[.int .i64 acd, .int .i64 avr, .string ad, .slice ao 0 cap] 48) := ⟨_, rfl⟩
        rw [← hE6] at hHeld ⊢
        obtain ⟨b6, l1, s1⟩ := HA8.out E6 hE6
        have HB6 := Lib.hid b6
        have HSrc := Lib.hid s1
        clear hE6 b6 s1
        refine wpAnyH_ready (rs := [4]) (by kernel_rfl) (by simp) (AllReadyH.cons rfl (fun K hK => ?_) AllReadyH.nil)
        try simp only [Go.wp_at_succ, Go.wp_at_zero]
        go_simp
        refine hK.out _ _ hHeld (fun hHeld => ?_)
        clear hK K
        try simp only [Act.put, List.setIfInBounds_toArray, List.set_cons_zero, List.set_cons_succ]
        refine wpAnyH_ready (rs := [7]) (by kernel_rfl) (by simp) (AllReadyH.cons rfl (fun K hK => ?_) AllReadyH.nil)
        have HR6 := Lib.hid (HE1.out.on HB6.out)
        have hRowP : Hid (ORow E6 n 48 4 (.slice ra PP rc) PP (rcCs K1)) := by have h := HR6.out.reps; rwa [← HPP.out, HRC.out] at h
        obtain ⟨i9, hi9, hz9, hz91, hz92⟩ := info_parts info_Rep18
        refine step_append_or rfl (.tmp 43) (.tmp 45) 89 89 rfl n 48 i9 (.agg #[.int .i64 0, .int .i64 0, .string ⟨#[]⟩, .slice none 0 0]) 4 56 Try.underlying89 hi9 hz9 hz91 hz92 rfl zb_rep (.slice ra PP rc) PP (rcCs K1) rfl hRowP.out (.slice (some ⟨e0.heap.size, 0, none⟩) 1 1) 1 (rcC ⟨acd, avr, ad, .slice ao 0 cap⟩) rfl HSrc.out (rcC_nobool _ HNL.out) (by unfold maxLen; omega) (by omega) (Nat.le_trans hnw3 HB6.out.size) ?_
        intro v3 w8 O8 G8 V8
        have O8' := O8
        rw [HPP.out] at O8'
        obtain ⟨R9, x1, y1⟩ := HR6.out.setRep (r := ⟨acd, avr, ad, .slice ao 0 cap⟩) O8' (by rw [HRC.out]; exact G8) (by rw [HRC.out]; exact V8)
        rw [HRC.out] at x1
        have HO8 : Hid (Only (fun x => x = g ∨ vr1.ownBlock = some x) u3 w8) := (Only.of HB6.out).then (grown_only G8) (fun x _ hx => .inr (by rw [HRC.out]; exact hx))
        have HO9 : Hid (Only (fun x => x = g ∨ vr1.ownBlock = some x) u3 (w8.setCell ⟨g, 39, none⟩ v3)) := HO8.out.then (Only.set g 39 w8 v3) (fun x _ hx => .inl hx)
        have HV9 : Hid (∀ x, v3.ownBlock = some x → vr1.ownBlock = some x ∨ w.heap.size + 4 ≤ x) := fun x hx => (V8 x hx).imp (fun h => by rw [HRC.out]; exact h) (fun h => by have := HB6.out.size; have := HE2.out.size; have := HCI.out.size; omega)
        obtain ⟨a3, c3, rfl⟩ := own_shape O8.own
        have HR9 := Lib.hid R9
        clear O8 O8' G8 V8 R9
        refine hK.out _ _ (HF8.out _ HO8.out) (fun hHeld => ?_)
        clear hK K
        try simp only [Act.put]
        try simp only [List.setIfInBounds_toArray]
        try simp only [Act.put, List.setIfInBounds_toArray, List.set_cons_zero, List.set_cons_succ]
        first
          | (refine held_take 8 47 (v := ?_) rfl rfl (by kernel_rfl) (by kernel_rfl) (by kernel_rfl) (fun _ _ _ h => h) (by assumption) (by rfl) ?_ ?_; rotate_left; (focus (intro w hSw; (obtain ⟨z0, z1, z2, z3, z4⟩ := hSw); go_simp <;> with_reducible rfl)))
          | refine held_pass 8 47 rfl rfl (by kernel_rfl) (by kernel_rfl) (by kernel_rfl) (fun _ _ _ h => h) (by assumption) (by rfl) ?_
        simp only [Act.put]
        first
          | (refine held_take 9 48 (v := ?_) rfl rfl (by kernel_rfl) (by kernel_rfl) (by kernel_rfl) (fun _ _ _ h => h) (by assumption) (by rfl) ?_ ?_; rotate_left; (focus (intro w hSw; (obtain ⟨z0, z1, z2, z3, z4⟩ := hSw); go_simp <;> with_reducible rfl)))
          | refine held_pass 9 48 rfl rfl (by kernel_rfl) (by kernel_rfl) (by kernel_rfl) (fun _ _ _ h => h) (by assumption) (by rfl) ?_
        simp only [Act.put]
        refine wpAnyH_ready (rs := [10]) (by kernel_rfl) (by simp) (AllReadyH.cons rfl (fun K hK => ?_) AllReadyH.nil)
        try simp only [Go.wp_at_succ, Go.wp_at_zero]
        go_simp
        refine hK.out _ _ (HF8.out _ HO9.out) (fun hHeld => ?_)
        clear hK K
        try simp only [Act.put]
        refine wpAnyH_done (by kernel_rfl) ?_ _
        clear hHeld x1 y1 hRowP l1
      all_goals
        obtain ⟨v5, hv5⟩ : ∃ u, u = w8.setCell ⟨g, 39, none⟩ (.slice a3 (PP + 1) c3) := ⟨_, rfl⟩
        rw [← hv5] at HO9 HR9 ⊢
        clear hv5
        have HOT : Hid (Only (fun x => x = d ∨ x = g ∨ vr1.ownBlock = some x) W v5) := (HE2.out.mono (fun _ _ h => .inl h)).then HO9.out (fun _ _ h => .inr h)
        gi_wp2
        have hs1 := HSZ1.out
        have hot := HOT.out
        have hszW := HCI.out.size
        have hkinds := HRAW.out.kinds
        have hLBS : ∀ x, (x = d ∨ x = g ∨ vr1.ownBlock = some x) → LB g d vq vr1 vp x := by
          rintro x (h | h | h)
          · exact .inr (.inl h)
          · exact .inl h
          · exact .inr (.inr (.inr (.inl h)))
        have hnS : ∀ k, (k = w.heap.size ∨ k = w1.heap.size ∨ k = w1.heap.size + 1 ∨ k = w1.heap.size + 2) → ¬ (k = d ∨ k = g ∨ vr1.ownBlock = some k) := by
          rintro k hk (h | h | h)
          · omega
          · omega
          · rcases HVR.out k h with h' | h'
            · have := (HOLD.out.all (.inr (.inr (.inr (.inl h'))))).2.1; omega
            · omega
        refine ⟨keepsFrom18 hot (fun x hx => HRAW.out.cellsAt (hLBS x hx)) _, ⟨hot.size, fun k hk hp => hot.block k hk ?_, fun _ => HR9.out.c1.1.trans HRAW.out.c1.1.symm⟩, ?_⟩
        · rcases hp with h | h | h | h
          · exact hnS k (.inr (.inl h))
          · exact hnS k (.inr (.inr (.inl h)))
          · exact hnS k (.inr (.inr (.inr h)))
          · obtain ⟨h1', h2', h3', _⟩ := hkinds.2.1 k h
            rintro (h' | h' | h')
            · exact h2' h'
            · exact h1' h'
            · exact h3' h'
        · show CI w n g d vq vr vp q L (L.take C ++ (pre ++ [(⟨⟨cl, sq, kd, id, mt, dt⟩, h64'⟩ : RqE)]).map (·.r)) v5
          rw [List.map_append, ← List.append_assoc, HMM.out]
          show CI w n g d vq vr vp q L (M ++ [⟨cl, sq, kd, id, mt, dt⟩]) v5
          refine ⟨(hot.block _ (by omega) (hnS _ (.inl rfl))).trans HCI.out.box, ⟨.slice a3 (PP + 1) c3, K1 ++ [⟨acd, avr, ad, .slice ao 0 cap⟩], ?_, by rw [List.length_append, List.length_append, HKL.out]; rfl, fun k hk => ?_, fun x hx => ?_⟩, HCI.out.only.then hot (fun x hx hS => ?_), Nat.le_trans hszW hot.size⟩
          · rw [stoOf_app, HAA.out]
            exact HR9.out
          · rw [List.length_append, List.length_singleton] at hk
            by_cases hkk : k < K1.length
            · have hg : (K1 ++ [(⟨acd, avr, ad, .slice ao 0 cap⟩ : RcV)]).getD k rc0 = K1.getD k rc0 := by rw [List.getD_eq_getElem?_getD, List.getD_eq_getElem?_getD, List.getElem?_append_left hkk]
              rw [hg]
              exact (HREP.out k hkk).app _ (by have := HKL.out; omega)
            · obtain rfl : k = K1.length := by omega
              have hg : (K1 ++ [(⟨acd, avr, ad, .slice ao 0 cap⟩ : RcV)]).getD K1.length rc0 = ⟨acd, avr, ad, .slice ao 0 cap⟩ := by simp
              rw [hg, HKL.out]
              have hp : putA (stoOf q ((M ++ [(⟨cl, sq, kd, id, mt, dt⟩ : ReqV)]).take M.length)) (atL (M ++ [(⟨cl, sq, kd, id, mt, dt⟩ : ReqV)]) M.length) = ⟨s', acd, avr, ad, ax⟩ := by
                rw [take_app_le _ (Nat.le_refl _), List.take_length, atL_end]
                exact HAA.out
              exact ⟨by rw [hp], by rw [hp], by rw [hp], HNL.out⟩
          · rcases HV9.out x hx with h | h
            · exact HVR.out x h
            · exact .inr h
          · rcases hS with h | h | h
            · exact .inr (.inl h)
            · exact .inl h
            · rcases HVR.out x h with h' | h'
              · exact .inr (.inr (.inr (.inl h')))
              · omega
  case done =>
    rintro D ys W hD rfl hCI hK
    clear hs1 hs3 s1
    gi_wp2
    refine ⟨by simp, .inl ⟨_, _, rfl, run_takeDeferred hK, ?_⟩⟩
    have hs1 := HSZ1.out
    have hs3 := HS3.out
    have hcn := HHC.out
    have hck := HCC.out
    have hcq : cntQ L C ((c : Int) - (C : Int)) = c - C := by unfold cntQ; omega
    have hlist : L.take C ++ ((comeQ L C (cntQ L C ((c : Int) - (C : Int)))).map entE).map (·.r) = L.take c := by
      rw [entE_map (L := comeQ L C (cntQ L C ((c : Int) - (C : Int)))) (fun x hx => h64 x (List.mem_of_mem_drop (List.mem_of_mem_take hx))), hcq]
      unfold comeQ
      rw [← List.take_add, show C + (c - C) = c by omega]
    have hCJ := hCI.obj (grownBy_putObj' W D (.deferred none)) (fun r e => by cases e; exact ⟨by omega, _, hK, rfl⟩)
    have hCJ2 : CI w n g d vq vr vp q L (L.take c) (W.putObj D (.deferred none)) := by rw [← hlist]; exact hCJ
    obtain ⟨vr', K', g1, g2, g3, g4⟩ := hCJ2.raw
    have hkc : K'.length = c := by rw [g2, List.length_take]; omega
    have hold := HOLD.out
    refine ⟨_, results_tmp rfl _ _ _, rfl, vr', K', ⟨by rw [hkc]; exact g1, by omega, fun k hk => (g3 k hk).cut (by omega), hold.ok, hold.quo⟩, hkc, hCJ2.only, fun x hx => ?_⟩
    rcases hx with hx | hx | hx | hx | hx
    · exact .inl (.inl hx)
    · exact .inl (.inr (.inl hx))
    · exact .inl (.inr (.inr (.inl hx)))
    · exact (g4 x hx).imp (fun h => .inr (.inr (.inr (.inl h)))) (fun h => by omega)
    · exact .inl (.inr (.inr (.inr (.inr hx))))
  case stop =>
    rintro D c pre W _ _ h _
    exact h.elim
end Go.Proofs.Ytenjjgghoacboaa
