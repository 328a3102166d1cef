/-
  THE LOG's Commit where it refuses; its Store; of nil. No condition but that a log has at most a hundred thousand requests.
-/
import Derived.Test.YtenjjgghoacboaaLnS
namespace Go.Proofs.Ytenjjgghoacboaa
open Go.RowKit Go.Shelf

set_option maxHeartbeats 1000000 in
theorem lcommit_nil (c : Int) (w : World) : Calls Try.prog 21 #[.pointer none, .int .i64 c] w fun e w' => e = .returned (.int .i64 1) ∧ Below w.heap.size w w' := by
  have HM := Lib.hid (fun u => lmade_nil u)
  go_enter Try.func21, Try.ntmps21
  go_wp2_with fail
  refine (HM.out _).mono ?_
  rintro e w1 ⟨rfl, rfl⟩
  go_wp2
  go_returns
  exact ⟨rfl, by go_grown⟩
set_option maxHeartbeats 1000000 in
theorem lcommit_no {w : World} {n g d : Nat} {vq vr : Value} {vp : Nat → Value} {q : Int} {L : List ReqV} {K : List RcV} (H : Lin w n g d vq vr vp q L K) (c : Int) (hc : c < K.length ∨ L.length < c) :
    Calls Try.prog 21 #[.pointer (some ⟨g, 0, none⟩), .int .i64 c] w fun e w' => e = .returned (.int .i64 6) ∧ Below w.heap.size w w' := by
  have HM := Lib.hid (fun o => lmade_r (H.on ((Below.refl _ _).alloc (Nat.le_refl _) o)))
  have HL := Lib.hid (fun o => llen_r (H.on ((Below.refl _ _).alloc (Nat.le_refl _) o)))
  have HC := Lib.hid (fun o => lcom_r (H.on ((Below.refl _ _).alloc (Nat.le_refl _) o)))
  obtain ⟨N, hN⟩ : ∃ N, N = L.length := ⟨_, rfl⟩
  obtain ⟨C, hC⟩ : ∃ C, C = K.length := ⟨_, rfl⟩
  rw [← hN] at HL hc
  rw [← hC] at HC hc
  clear H hN hC
  by_cases h1 : c < C
  · clear hc
    go_enter Try.func21, Try.ntmps21
    go_wp2_with fail
    refine (HM.out _).mono ?_
    rintro e w1 ⟨rfl, rfl⟩
    go_wp2_with fail
    refine (HC.out _).mono ?_
    rintro e w1 ⟨rfl, rfl⟩
    go_wp2
    go_returns
    exact ⟨rfl, by go_grown⟩
  · have h2 : (N : Int) < c := by omega
    have h3 : (C : Int) ≤ c := by omega
    clear hc h1
    go_enter Try.func21, Try.ntmps21
    go_wp2_with fail
    refine (HM.out _).mono ?_
    rintro e w1 ⟨rfl, rfl⟩
    go_wp2_with fail
    refine (HC.out _).mono ?_
    rintro e w1 ⟨rfl, rfl⟩
    go_wp2_with fail
    refine (HL.out _).mono ?_
    rintro e w1 ⟨rfl, rfl⟩
    go_wp2
    go_returns
    exact ⟨rfl, by go_grown⟩
theorem lcommit_r {w : World} {n g d : Nat} {vq vr : Value} {vp : Nat → Value} {q : Int} {L : List ReqV} {K : List RcV} (H : Lin w n g d vq vr vp q L K) (hL5 : L.length ≤ 100000) (hnw : n ≤ w.heap.size) (c : Nat) (hc1 : K.length ≤ c) (hc2 : c ≤ L.length) :
    Calls Try.prog 21 #[.pointer (some ⟨g, 0, none⟩), .int .i64 c] w fun e w' => e = .returned (.int .i64 0) ∧ LComR n g d vq vr vp q L c w w' :=
  callsIn_wide.1 (lcommit_in 3 (Nat.le_refl _) H hL5 hnw c hc1 hc2)

/-! ### Store -/
set_option maxHeartbeats 1000000 in
theorem lstore_nil (w : World) : Calls Try.prog 24 #[.pointer none] w fun e w' => e = .returned (.pointer none) ∧ Below w.heap.size w w' := by
  have HM := Lib.hid (fun u => lmade_nil u)
  go_enter Try.func24, Try.ntmps24
  go_wp2_with fail
  refine (HM.out _).mono ?_
  rintro e w1 ⟨rfl, rfl⟩
  go_wp2
  go_returns
  exact ⟨rfl, by go_grown⟩

attribute [local go_sem] Oper.semAt_some

/-- The store while it is being made: M were Put. -/
structure SI (w : World) (q : Int) (M : List ReqV) (W : World) : Prop where
  box : Boxed W (w.heap.size + 1) 52 (.pointer (some ⟨w.heap.size, 0, none⟩))
  sto : Sto layP W w.heap.size (stoOf q M)
  bel : Below w.heap.size w W
  size : w.heap.size + 5 ≤ W.heap.size
theorem Sto.obj {y : Lay} {w w' : World} {b : Nat} {s : StoV} (h : Sto y w b s) {row : Option Nat} (hg : w.grownBy w' row) (hr : ∀ r, row = some r → ∃ o : Obj, w.heap[r]? = some o ∧ o.isCells = false) : Sto y w' b s := by
  refine h.only (S := fun x => row = some x) (fun e => ?_) (fun x e _ => ?_) (grown_only hg)
  · obtain ⟨o, ho, hc⟩ := hr b e
    obtain ⟨_, ⟨cs, hh, _⟩, _⟩ := h
    rw [hh] at ho
    cases ho
    cases hc
  · obtain ⟨o, ho, hc⟩ := hr x e
    exact nobool_obj ho hc
theorem SI.obj {w W W' : World} {q : Int} {M : List ReqV} (h : SI w q M W) {row : Option Nat} (hg : W.grownBy W' row) (hr : ∀ r, row = some r → w.heap.size ≤ r ∧ ∃ o : Obj, W.heap[r]? = some o ∧ o.isCells = false) : SI w q M W' :=
  ⟨cells_row h.box hg (fun r e => (hr r e).2), h.sto.obj hg (fun r e => (hr r e).2), h.bel.grown hg (by have := h.size; omega) (fun r e => (hr r e).1), Nat.le_trans h.size hg.size⟩

set_option maxRecDepth 100000 in
set_option maxHeartbeats 4000000 in
theorem lstore_in (m : Nat) (hm : 3 ≤ m) {w : World} {n g d : Nat} {vq vr : Value} {vp : Nat → Value} {q : Int} {L : List ReqV} {K : List RcV} (H : Lin w n g d vq vr vp q L K) (hL5 : L.length ≤ 100000) :
    CallsIn Fence.wide m Try.prog 24 #[.pointer (some ⟨g, 0, none⟩)] w fun e w' => e = .returned (.pointer (some ⟨w.heap.size, 0, none⟩)) ∧ Sto layP w' w.heap.size (stoOf q (L.take K.length)) ∧ Below w.heap.size w w' := by
  have hL : L.length ≤ 1000000 := by omega
  have h1 : 1 ≤ m := by omega
  have hro : Fence.wide.round = none := rfl
  obtain ⟨C, hC⟩ : ∃ C, C = K.length := ⟨_, rfl⟩
  have HCC := Lib.hid hC
  have HOLD := Lib.hid H
  have HM : Hid (CallsIn Fence.wide (m - 1) Try.prog 58 #[.pointer (some ⟨g, 0, none⟩)] w fun e w' => e = .returned (.bool true) ∧ w = w') := callsIn_wide.2 (lmade_r H)
  have HN : Hid (CallsIn Fence.wide (m - 1) Try.prog 44 #[.int .i64 q] w (Made q w)) := callsIn_wide.2 (snew_r q H.quo.1 H.quo.2 w)
  have HCM : Hid (∀ u, Below w.heap.size w u → CallsIn Fence.wide (m - 1) Try.prog 16 #[.pointer (some ⟨g, 0, none⟩)] u fun e w' => e = .returned (.int .i64 C) ∧ u = w') := by rw [hC]; exact fun u hu => callsIn_wide.2 (lcom_r (H.on hu))
  have c0 := H.c0
  clear H hC
  refine callsIn_of_wp_marks Try.func24 rfl trivial ?_ hro
  simp only [Try.ntmps24, List.size_toArray, List.length_cons, List.length_nil, Nat.reduceAdd, Nat.reduceSub, Array.replicate_succ, Array.replicate_zero, List.push_toArray, List.append_toArray, List.nil_append, List.cons_append]
  gi_wp2_with fail
  refine ⟨trivial, HM.out.mono ?_⟩
  rintro e w2 ⟨rfl, rfl⟩
  gi_wp2_with fail
  refine ⟨trivial, HN.out.mono ?_⟩
  rintro e w1 ⟨rfl, S1, z1, B1⟩
  have HS1 := Lib.hid S1
  have HZ1 := Lib.hid z1
  have HB1 := Lib.hid B1
  clear S1 z1 B1 c0
  have hs1 : w.heap.size < w1.heap.size := by have := HZ1.out; omega
  obtain ⟨w2, hw2⟩ : ∃ w2, w2 = w1.alloc (.cells #[.pointer (some ⟨w.heap.size, 0, none⟩)] 52) := ⟨_, rfl⟩
  have HB2 : Hid (Below w1.heap.size w1 w2) := by rw [hw2]; exact (Below.refl _ _).alloc (Nat.le_refl _) _
  have HX2 : Hid (Boxed w2 (w.heap.size + 1) 52 (.pointer (some ⟨w.heap.size, 0, none⟩))) := by
    rw [hw2]
    have := Boxed.new w1 52 (.pointer (some ⟨w.heap.size, 0, none⟩))
    rwa [HZ1.out] at this
  have HZ2 : Hid (w2.heap.size = w.heap.size + 2) := by show _ = _; rw [hw2, World.size_alloc, HZ1.out]
  gi_wp2_with fail
  rw [← hw2]
  clear hw2
  refine ⟨trivial, (HCM.out _ (HB1.out.trans (HB2.out.mono HB1.out.size))).mono ?_⟩
  rintro e w3 ⟨rfl, rfl⟩
  gi_wp2_with fail
  refine ⟨trivial, (callsIn_wide.2 (behind_any _ _ _ _)).mono ?_⟩
  rintro e w3 ⟨rfl, rfl⟩
  obtain ⟨b1, b2, b3, bb, bs⟩ := box3 w2 (.cells #[.pointer (some ⟨g, 0, none⟩)] 23) (.cells #[.int .i64 0] 3) (.cells #[.int .i64 (C : Int)] 3)
  obtain ⟨w3, hw3⟩ : ∃ w3, w3 = ((w2.alloc (.cells #[.pointer (some ⟨g, 0, none⟩)] 23)).alloc (.cells #[.int .i64 0] 3)).alloc (.cells #[.int .i64 (C : Int)] 3) := ⟨_, rfl⟩
  rw [← hw3] at b1 b2 b3 bb bs ⊢
  have X1 := Lib.hid b1
  have X2 := Lib.hid b2
  have X3 := Lib.hid b3
  have HB3 := Lib.hid bb
  have HS3 := Lib.hid bs
  clear hw3 b1 b2 b3 bb bs
  gi_wp2_with fail
  rw [HZ1.out]
  have hgw := HOLD.out.lt
  have hPR : ∀ k, vq.ownBlock = some k → k < w2.heap.size := fun k hk => by have := (HOLD.out.row.nb k hk).lt; have := HZ2.out; omega
  have hgR : g < w2.heap.size := by have := HZ2.out; omega
  have HBW : Hid (Below w.heap.size w w2) := HB1.out.trans (HB2.out.mono HB1.out.size)
  have HBW3 : Hid (Below w.heap.size w w3) := HBW.out.trans (HB3.out.mono HBW.out.size)
  have h64 : ∀ x ∈ L, x.data.size ≤ 64 := by
    intro x hx
    obtain ⟨k, hk, rfl⟩ := List.getElem_of_mem hx
    have h := (HOLD.out.ok k hk).1.1
    rw [atL_lt hk] at h
    unfold ReqV.may at h
    omega
  have hI0 : SI w q (([] : List RqE).map (·.r)) w3 :=
    ⟨(HB3.out.block _ (by have := HZ2.out; omega)).trans HX2.out, (HS1.out.on HB2.out).on HB3.out, HBW3.out, by have := HS3.out; have := HZ2.out; omega⟩
  refine wpIn_rangeFunc_ownH hro h1 (gf := 94) (lb := #[.pointer (some ⟨w2.heap.size + 1, 0, none⟩), .pointer (some ⟨w2.heap.size, 0, none⟩), .pointer (some ⟨w2.heap.size + 2, 0, none⟩)]) rfl trivial (enters_of Try.func94 (by kernel_rfl) rfl)
    (behind_stopsE (m - 1) w2.heap.size (fun k => vq.ownBlock = some k) g (some ⟨g, 0, none⟩) 0 (C : Int) L h64 w3 (by have := HS3.out; omega) (fun u hu => AskQ.of (HOLD.out.on (HBW3.out.trans (hu.mono HBW3.out.size))) hL _) X1.out X2.out X3.out)
    (fun h k => KeepQ.trans h k) (fun W l o o' hl ho h1 h2 => KeepQ.of hPR hgR ((belowK_b (w := w3) (Nat.le_refl _) W l o o' hl ho h1 h2).mono (by have := HS3.out; omega))) (Below.refl _ _) (fun _ => rfl)
    (fun (pre : List RqE) W => SI w q (pre.map RqE.r) W)
    (fun _ _ _ => False)
    (fun s X Y row hs hg hr => SI.obj (M := s.map RqE.r) hs hg (fun r e => ⟨by have := (hr r e).1; have := HS3.out; have := HZ2.out; omega, (hr r e).2⟩))
    (fun _ _ _ _ _ hs _ _ => hs)
    hI0
    (fun x a' W => ∃ Bx, W.heap[Bx]? = some (.cells (reqC x.r).toArray 34 (0, 0)) ∧ a' = { tmps := #[.pointer (some ⟨g, 0, none⟩), undef, .pointer none, .pointer (some ⟨w.heap.size + 1, 0, none⟩), .int .i64 0, .pointer (some ⟨Bx, 0, none⟩), .pointer (some ⟨g, 0, none⟩), .bool true, .bool false, .tuple #[.pointer (some ⟨w.heap.size, 0, none⟩), .int .i64 0],
        .pointer (some ⟨g, 0, none⟩), .pointer (some ⟨g, 0, none⟩), .pointer (some ⟨g, 0, none⟩), .int .i64 q, .tuple #[.pointer (some ⟨w.heap.size, 0, none⟩), .int .i64 0], .pointer (some ⟨w.heap.size, 0, none⟩), .int .i64 0, .pointer (some ⟨g, 0, none⟩), .pointer (some ⟨g, 0, none⟩), .int .i64 (C : Int),
        .func (.func 94) #[] #[.pointer (some ⟨w2.heap.size + 1, 0, none⟩), .pointer (some ⟨w2.heap.size, 0, none⟩), .pointer (some ⟨w2.heap.size + 2, 0, none⟩)], x.r.val, undef, undef, undef, undef], defers := [] })
    (fun x a' => fun s X Y row ⟨Bx, hbx, ha⟩ hg hr => ⟨Bx, cells_row hbx hg (fun r e => (hr r e).2), ha⟩) ?assign ?body ?done ?stop
  case assign =>
    rintro l pre ⟨⟨cl, sq, kd, id, mt, dt⟩, h64'⟩ W K' hSI hK
    simp only [encE, encQ, ReqV.val]
    gi_wp2
    have hb1 : Below W.heap.size W (W.alloc (.cells #[.int .i64 cl, .int .i64 sq, .int .i64 kd, .int .i64 id, .int .i64 mt, .string dt] 34)) := (Below.refl _ W).alloc (Nat.le_refl _) _
    exact hK _ _ ((KeepsOthers.alloc _ _).from _) (KeepQ.of hPR hgR (hb1.mono (by have := hSI.size; have := HZ2.out; omega))) (hSI.obj (World.grownBy_alloc W _ none) (fun r e => by cases e)) ⟨W.heap.size, heap_alloc_new W _, rfl⟩
  case body =>
    rintro l pre ⟨⟨cl, sq, kd, id, mt, dt⟩, h64'⟩ a' W hl ⟨rr, hr⟩ hSI ⟨Bx, bX, rfl⟩ hlt
    have hc := hSI.box.cell
    obtain ⟨x0, x1, x2, x3, x4, x5⟩ := ReqB.cells (show ReqB W Bx cl sq kd id mt dt from ⟨_, bX⟩)
    have hLl : (pre.map (·.r)).length ≤ 1000000 := by rw [List.length_map]; omega
    generalize hM : pre.map (·.r) = M at hSI hLl
    have HMM := Lib.hid hM
    have HSI := Lib.hid hSI
    obtain ⟨A, hA⟩ : ∃ A, putA (stoOf q M) ⟨cl, sq, kd, id, mt, dt⟩ = A := ⟨_, rfl⟩
    obtain ⟨s', acd, avr, ad, ax⟩ := A
    have HAA := Lib.hid hA
    have HSP : Hid (CallsIn (Fence.wide.inRound l) (m - 1 - 1 - 1) Try.prog 63 #[.pointer (some ⟨w.heap.size, 0, none⟩), .agg #[.int .i64 cl, .int .i64 sq, .int .i64 kd, .int .i64 id, .int .i64 mt, .string dt]] W (PutR layP w.heap.size s' acd avr ad ax W)) :=
      CallsIn.inRound l (callsIn_wide.2 (sput_r w.heap.size (stoOf q M) s' M.length cl sq kd id mt dt acd avr ad ax hA (by unfold maxLen; simp only at h64'; omega) (stoOf_fit HOLD.out.quo.1 HOLD.out.quo.2 M) hLl W hSI.sto))
    clear hSI hM hA hlt hr bX
    dsimp only [ReqV.val]
    gi_wp2_with fail
    refine ⟨trivial, (fun h => by cases h), HSP.out.mono ?_⟩
    rintro e W2 ⟨ao, cap, rfl, _, hbs, hst⟩
    have HBS := Lib.hid hbs
    have HST := Lib.hid hst
    clear hbs hst
    gi_wp2
    have hot : Only (· = w.heap.size) W W2 := HBS.out.only
    have hz := HZ2.out
    have hsz := HSI.out.size
    refine ⟨keepsFrom18 hot (fun x hx => ?_) _, ⟨hot.size, fun k hk hp => hot.block k hk ?_, fun hg => hot.cell (p := ⟨g, 1, none⟩) hg (by show ¬ g = w.heap.size; omega)⟩, ?_⟩
    · subst hx
      obtain ⟨_, ⟨cs, hh, _⟩, _⟩ := HSI.out.sto
      exact ⟨_, _, hh⟩
    · rcases hp with h | h | h | h
      · omega
      · omega
      · omega
      · have := (HOLD.out.row.nb k h).lt; omega
    · show SI w q ((pre ++ [(⟨⟨cl, sq, kd, id, mt, dt⟩, h64'⟩ : RqE)]).map (·.r)) W2
      rw [List.map_append, HMM.out]
      show SI w q (M ++ [⟨cl, sq, kd, id, mt, dt⟩]) W2
      refine ⟨(hot.block _ (by omega) (by omega)).trans HSI.out.box, ?_, hot.below HSI.out.bel (fun x hx => by omega) HSI.out.bel.size, Nat.le_trans hsz hot.size⟩
      rw [stoOf_app, HAA.out]
      exact HST.out
  case done =>
    rintro D ys W hD rfl hSI hK
    have hc := hSI.box.cell
    have HSI := Lib.hid hSI
    clear hSI
    gi_wp2
    refine ⟨by simp, .inl ⟨_, _, rfl, run_takeDeferred hK, ?_⟩⟩
    have hck := HCC.out
    have hz := HZ2.out
    have hz3 := HS3.out
    have hkl := HOLD.out.kle
    have hcq : cntQ L 0 (C : Int) = C := by unfold cntQ; omega
    have hlist : ((comeQ L 0 (cntQ L 0 (C : Int))).map entE).map (·.r) = L.take C := by
      rw [entE_map (L := comeQ L 0 (cntQ L 0 (C : Int))) (fun x hx => h64 x (List.mem_of_mem_drop (List.mem_of_mem_take hx))), hcq]
      rfl
    have hSJ := HSI.out.obj (grownBy_putObj' W D (.deferred none)) (fun r e => by cases e; exact ⟨by omega, _, hK, rfl⟩)
    have hSJ2 : SI w q (L.take C) (W.putObj D (.deferred none)) := by rw [← hlist]; exact hSJ
    exact ⟨_, results_tmp rfl _ _ _, rfl, by rw [← hck]; exact hSJ2.sto, hSJ2.bel⟩
  case stop =>
    rintro D c pre W _ _ h _
    exact h.elim
end Go.Proofs.Ytenjjgghoacboaa
