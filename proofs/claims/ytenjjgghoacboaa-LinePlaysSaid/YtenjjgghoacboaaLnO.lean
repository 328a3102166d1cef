/-
  A LOG AS A LAW HAS IT; told of layer 18; rows of requests; two logs. Merged by gen/cat.sh.
-/
import Derived.Test.YtenjjgghoacboaaLnS
import Derived.Test.YtenjjgghoacboaaLnR
import Derived.BigQuiet
/-! ## LnT -/
/-
  THE LOG's Commit where it refuses; its Store; of nil. No condition but that a log has at most a hundred thousand requests.
-/
namespace Go.Proofs.Ytenjjgghoacboaa
open Go.RowKit Go.Shelf

set_option maxHeartbeats 1000000 in
theorem lcommit_nil (c : Int) (w : World) : Calls Try.prog 21 #[.pointer none, .int .i64 c] w fun e w' => e = .returned (.int .i64 1) ∧ Below w.heap.size w w' := by
  have HM := Lib.hid (fun u => lmade_nil u)
  go_enter Try.func21, Try.ntmps21
  go_wp2_with fail
  refine (HM.out _).mono ?_
  rintro e w1 ⟨rfl, rfl⟩
  go_wp2
  go_returns
  exact ⟨rfl, by go_grown⟩
set_option maxHeartbeats 1000000 in
theorem lcommit_no {w : World} {n g d : Nat} {vq vr : Value} {vp : Nat → Value} {q : Int} {L : List ReqV} {K : List RcV} (H : Lin w n g d vq vr vp q L K) (c : Int) (hc : c < K.length ∨ L.length < c) :
    Calls Try.prog 21 #[.pointer (some ⟨g, 0, none⟩), .int .i64 c] w fun e w' => e = .returned (.int .i64 6) ∧ Below w.heap.size w w' := by
  have HM := Lib.hid (fun o => lmade_r (H.on ((Below.refl _ _).alloc (Nat.le_refl _) o)))
  have HL := Lib.hid (fun o => llen_r (H.on ((Below.refl _ _).alloc (Nat.le_refl _) o)))
  have HC := Lib.hid (fun o => lcom_r (H.on ((Below.refl _ _).alloc (Nat.le_refl _) o)))
  obtain ⟨N, hN⟩ : ∃ N, N = L.length := ⟨_, rfl⟩
  obtain ⟨C, hC⟩ : ∃ C, C = K.length := ⟨_, rfl⟩
  rw [← hN] at HL hc
  rw [← hC] at HC hc
  clear H hN hC
  by_cases h1 : c < C
  · clear hc
    go_enter Try.func21, Try.ntmps21
    go_wp2_with fail
    refine (HM.out _).mono ?_
    rintro e w1 ⟨rfl, rfl⟩
    go_wp2_with fail
    refine (HC.out _).mono ?_
    rintro e w1 ⟨rfl, rfl⟩
    go_wp2
    go_returns
    exact ⟨rfl, by go_grown⟩
  · have h2 : (N : Int) < c := by omega
    have h3 : (C : Int) ≤ c := by omega
    clear hc h1
    go_enter Try.func21, Try.ntmps21
    go_wp2_with fail
    refine (HM.out _).mono ?_
    rintro e w1 ⟨rfl, rfl⟩
    go_wp2_with fail
    refine (HC.out _).mono ?_
    rintro e w1 ⟨rfl, rfl⟩
    go_wp2_with fail
    refine (HL.out _).mono ?_
    rintro e w1 ⟨rfl, rfl⟩
    go_wp2
    go_returns
    exact ⟨rfl, by go_grown⟩
theorem lcommit_r {w : World} {n g d : Nat} {vq vr : Value} {vp : Nat → Value} {q : Int} {L : List ReqV} {K : List RcV} (H : Lin w n g d vq vr vp q L K) (hL5 : L.length ≤ 100000) (hnw : n ≤ w.heap.size) (c : Nat) (hc1 : K.length ≤ c) (hc2 : c ≤ L.length) :
    Calls Try.prog 21 #[.pointer (some ⟨g, 0, none⟩), .int .i64 c] w fun e w' => e = .returned (.int .i64 0) ∧ LComR n g d vq vr vp q L c w w' :=
  callsIn_wide.1 (lcommit_in 3 (Nat.le_refl _) H hL5 hnw c hc1 hc2)

/-! ### Store -/
set_option maxHeartbeats 1000000 in
theorem lstore_nil (w : World) : Calls Try.prog 24 #[.pointer none] w fun e w' => e = .returned (.pointer none) ∧ Below w.heap.size w w' := by
  have HM := Lib.hid (fun u => lmade_nil u)
  go_enter Try.func24, Try.ntmps24
  go_wp2_with fail
  refine (HM.out _).mono ?_
  rintro e w1 ⟨rfl, rfl⟩
  go_wp2
  go_returns
  exact ⟨rfl, by go_grown⟩

attribute [local go_sem] Oper.semAt_some

/-- The store while it is being made: M were Put. -/
structure SI (w : World) (q : Int) (M : List ReqV) (W : World) : Prop where
  box : Boxed W (w.heap.size + 1) 52 (.pointer (some ⟨w.heap.size, 0, none⟩))
  sto : Sto layP W w.heap.size (stoOf q M)
  bel : Below w.heap.size w W
  size : w.heap.size + 5 ≤ W.heap.size
theorem Sto.obj {y : Lay} {w w' : World} {b : Nat} {s : StoV} (h : Sto y w b s) {row : Option Nat} (hg : w.grownBy w' row) (hr : ∀ r, row = some r → ∃ o : Obj, w.heap[r]? = some o ∧ o.isCells = false) : Sto y w' b s := by
  refine h.only (S := fun x => row = some x) (fun e => ?_) (fun x e _ => ?_) (grown_only hg)
  · obtain ⟨o, ho, hc⟩ := hr b e
    obtain ⟨_, ⟨cs, hh, _⟩, _⟩ := h
    rw [hh] at ho
    cases ho
    cases hc
  · obtain ⟨o, ho, hc⟩ := hr x e
    exact nobool_obj ho hc
theorem SI.obj {w W W' : World} {q : Int} {M : List ReqV} (h : SI w q M W) {row : Option Nat} (hg : W.grownBy W' row) (hr : ∀ r, row = some r → w.heap.size ≤ r ∧ ∃ o : Obj, W.heap[r]? = some o ∧ o.isCells = false) : SI w q M W' :=
  ⟨cells_row h.box hg (fun r e => (hr r e).2), h.sto.obj hg (fun r e => (hr r e).2), h.bel.grown hg (by have := h.size; omega) (fun r e => (hr r e).1), Nat.le_trans h.size hg.size⟩

set_option maxRecDepth 100000 in
set_option maxHeartbeats 4000000 in
theorem lstore_in (m : Nat) (hm : 3 ≤ m) {w : World} {n g d : Nat} {vq vr : Value} {vp : Nat → Value} {q : Int} {L : List ReqV} {K : List RcV} (H : Lin w n g d vq vr vp q L K) (hL5 : L.length ≤ 100000) :
    CallsIn Fence.wide m Try.prog 24 #[.pointer (some ⟨g, 0, none⟩)] w fun e w' => e = .returned (.pointer (some ⟨w.heap.size, 0, none⟩)) ∧ Sto layP w' w.heap.size (stoOf q (L.take K.length)) ∧ Below w.heap.size w w' := by
  have hL : L.length ≤ 1000000 := by omega
  have h1 : 1 ≤ m := by omega
  have hro : Fence.wide.round = none := rfl
  obtain ⟨C, hC⟩ : ∃ C, C = K.length := ⟨_, rfl⟩
  have HCC := Lib.hid hC
  have HOLD := Lib.hid H
  have HM : Hid (CallsIn Fence.wide (m - 1) Try.prog 58 #[.pointer (some ⟨g, 0, none⟩)] w fun e w' => e = .returned (.bool true) ∧ w = w') := callsIn_wide.2 (lmade_r H)
  have HN : Hid (CallsIn Fence.wide (m - 1) Try.prog 44 #[.int .i64 q] w (Made q w)) := callsIn_wide.2 (snew_r q H.quo.1 H.quo.2 w)
  have HCM : Hid (∀ u, Below w.heap.size w u → CallsIn Fence.wide (m - 1) Try.prog 16 #[.pointer (some ⟨g, 0, none⟩)] u fun e w' => e = .returned (.int .i64 C) ∧ u = w') := by rw [hC]; exact fun u hu => callsIn_wide.2 (lcom_r (H.on hu))
  have c0 := H.c0
  clear H hC
  refine callsIn_of_wp_marks Try.func24 rfl trivial ?_ hro
  simp only [Try.ntmps24, List.size_toArray, List.length_cons, List.length_nil, Nat.reduceAdd, Nat.reduceSub, Array.replicate_succ, Array.replicate_zero, List.push_toArray, List.append_toArray, List.nil_append, List.cons_append]
  gi_wp2_with fail
  refine ⟨trivial, HM.out.mono ?_⟩
  rintro e w2 ⟨rfl, rfl⟩
  gi_wp2_with fail
  refine ⟨trivial, HN.out.mono ?_⟩
  rintro e w1 ⟨rfl, S1, z1, B1⟩
  have HS1 := Lib.hid S1
  have HZ1 := Lib.hid z1
  have HB1 := Lib.hid B1
  clear S1 z1 B1 c0
  have hs1 : w.heap.size < w1.heap.size := by have := HZ1.out; omega
  obtain ⟨w2, hw2⟩ : ∃ w2, w2 = w1.alloc (.cells #[.pointer (some ⟨w.heap.size, 0, none⟩)] 52) := ⟨_, rfl⟩
  have HB2 : Hid (Below w1.heap.size w1 w2) := by rw [hw2]; exact (Below.refl _ _).alloc (Nat.le_refl _) _
  have HX2 : Hid (Boxed w2 (w.heap.size + 1) 52 (.pointer (some ⟨w.heap.size, 0, none⟩))) := by
    rw [hw2]
    have := Boxed.new w1 52 (.pointer (some ⟨w.heap.size, 0, none⟩))
    rwa [HZ1.out] at this
  have HZ2 : Hid (w2.heap.size = w.heap.size + 2) := by show _ = _; rw [hw2, World.size_alloc, HZ1.out]
  gi_wp2_with fail
  rw [← hw2]
  clear hw2
  refine ⟨trivial, (HCM.out _ (HB1.out.trans (HB2.out.mono HB1.out.size))).mono ?_⟩
  rintro e w3 ⟨rfl, rfl⟩
  gi_wp2_with fail
  refine ⟨trivial, (callsIn_wide.2 (behind_any _ _ _ _)).mono ?_⟩
  rintro e w3 ⟨rfl, rfl⟩
  obtain ⟨b1, b2, b3, bb, bs⟩ := box3 w2 (.cells #[.pointer (some ⟨g, 0, none⟩)] 23) (.cells #[.int .i64 0] 3) (.cells #[.int .i64 (C : Int)] 3)
  obtain ⟨w3, hw3⟩ : ∃ w3, w3 = ((w2.alloc (.cells #[.pointer (some ⟨g, 0, none⟩)] 23)).alloc (.cells #[.int .i64 0] 3)).alloc (.cells #[.int .i64 (C : Int)] 3) := ⟨_, rfl⟩
  rw [← hw3] at b1 b2 b3 bb bs ⊢
  have X1 := Lib.hid b1
  have X2 := Lib.hid b2
  have X3 := Lib.hid b3
  have HB3 := Lib.hid bb
  have HS3 := Lib.hid bs
  clear hw3 b1 b2 b3 bb bs
  gi_wp2_with fail
  rw [HZ1.out]
  have hgw := HOLD.out.lt
  have hPR : ∀ k, vq.ownBlock = some k → k < w2.heap.size := fun k hk => by have := (HOLD.out.row.nb k hk).lt; have := HZ2.out; omega
  have hgR : g < w2.heap.size := by have := HZ2.out; omega
  have HBW : Hid (Below w.heap.size w w2) := HB1.out.trans (HB2.out.mono HB1.out.size)
  have HBW3 : Hid (Below w.heap.size w w3) := HBW.out.trans (HB3.out.mono HBW.out.size)
  have h64 : ∀ x ∈ L, x.data.size ≤ 64 := by
    intro x hx
    obtain ⟨k, hk, rfl⟩ := List.getElem_of_mem hx
    have h := (HOLD.out.ok k hk).1.1
    rw [atL_lt hk] at h
    unfold ReqV.may at h
    omega
  have hI0 : SI w q (([] : List RqE).map (·.r)) w3 :=
    ⟨(HB3.out.block _ (by have := HZ2.out; omega)).trans HX2.out, (HS1.out.on HB2.out).on HB3.out, HBW3.out, by have := HS3.out; have := HZ2.out; omega⟩
  refine wpIn_rangeFunc_ownH hro h1 (gf := 94) (lb := #[.pointer (some ⟨w2.heap.size + 1, 0, none⟩), .pointer (some ⟨w2.heap.size, 0, none⟩), .pointer (some ⟨w2.heap.size + 2, 0, none⟩)]) rfl trivial (enters_of Try.func94 (by kernel_rfl) rfl)
    (behind_stopsE (m - 1) w2.heap.size (fun k => vq.ownBlock = some k) g (some ⟨g, 0, none⟩) 0 (C : Int) L h64 w3 (by have := HS3.out; omega) (fun u hu => AskQ.of (HOLD.out.on (HBW3.out.trans (hu.mono HBW3.out.size))) hL _) X1.out X2.out X3.out)
    (fun h k => KeepQ.trans h k) (fun W l o o' hl ho h1 h2 => KeepQ.of hPR hgR ((belowK_b (w := w3) (Nat.le_refl _) W l o o' hl ho h1 h2).mono (by have := HS3.out; omega))) (Below.refl _ _) (fun _ => rfl)
    (fun (pre : List RqE) W => SI w q (pre.map RqE.r) W)
    (fun _ _ _ => False)
    (fun s X Y row hs hg hr => SI.obj (M := s.map RqE.r) hs hg (fun r e => ⟨by have := (hr r e).1; have := HS3.out; have := HZ2.out; omega, (hr r e).2⟩))
    (fun _ _ _ _ _ hs _ _ => hs)
    hI0
    (fun x a' W => ∃ Bx, W.heap[Bx]? = some (.cells (reqC x.r).toArray 34 (0, 0)) ∧ a' = { tmps := #[.pointer (some ⟨g, 0, none⟩), undef, .pointer none, .pointer (some ⟨w.heap.size + 1, 0, none⟩), .int .i64 0, .pointer (some ⟨Bx, 0, none⟩), .pointer (some ⟨g, 0, none⟩), .bool true, .bool false, .tuple #[.pointer (some ⟨w.heap.size, 0, none⟩), .int .i64 0],
        .pointer (some ⟨g, 0, none⟩), .pointer (some ⟨g, 0, none⟩), .pointer (some ⟨g, 0, none⟩), .int .i64 q, .tuple #[.pointer (some ⟨w.heap.size, 0, none⟩), .int .i64 0], .pointer (some ⟨w.heap.size, 0, none⟩), .int .i64 0, .pointer (some ⟨g, 0, none⟩), .pointer (some ⟨g, 0, none⟩), .int .i64 (C : Int),
        .func (.func 94) #[] #[.pointer (some ⟨w2.heap.size + 1, 0, none⟩), .pointer (some ⟨w2.heap.size, 0, none⟩), .pointer (some ⟨w2.heap.size + 2, 0, none⟩)], x.r.val, undef, undef, undef, undef], defers := [] })
    (fun x a' => fun s X Y row ⟨Bx, hbx, ha⟩ hg hr => ⟨Bx, cells_row hbx hg (fun r e => (hr r e).2), ha⟩) ?assign ?body ?done ?stop
  case assign =>
    rintro l pre ⟨⟨cl, sq, kd, id, mt, dt⟩, h64'⟩ W K' hSI hK
    simp only [encE, encQ, ReqV.val]
    gi_wp2
    have hb1 : Below W.heap.size W (W.alloc (.cells #[.int .i64 cl, .int .i64 sq, .int .i64 kd, .int .i64 id, .int .i64 mt, .string dt] 34)) := (Below.refl _ W).alloc (Nat.le_refl _) _
    exact hK _ _ ((KeepsOthers.alloc _ _).from _) (KeepQ.of hPR hgR (hb1.mono (by have := hSI.size; have := HZ2.out; omega))) (hSI.obj (World.grownBy_alloc W _ none) (fun r e => by cases e)) ⟨W.heap.size, heap_alloc_new W _, rfl⟩
  case body =>
    rintro l pre ⟨⟨cl, sq, kd, id, mt, dt⟩, h64'⟩ a' W hl ⟨rr, hr⟩ hSI ⟨Bx, bX, rfl⟩ hlt
    have hc := hSI.box.cell
    obtain ⟨x0, x1, x2, x3, x4, x5⟩ := ReqB.cells (show ReqB W Bx cl sq kd id mt dt from ⟨_, bX⟩)
    have hLl : (pre.map (·.r)).length ≤ 1000000 := by rw [List.length_map]; omega
    generalize hM : pre.map (·.r) = M at hSI hLl
    have HMM := Lib.hid hM
    have HSI := Lib.hid hSI
    obtain ⟨A, hA⟩ : ∃ A, putA (stoOf q M) ⟨cl, sq, kd, id, mt, dt⟩ = A := ⟨_, rfl⟩
    obtain ⟨s', acd, avr, ad, ax⟩ := A
    have HAA := Lib.hid hA
    have HSP : Hid (CallsIn (Fence.wide.inRound l) (m - 1 - 1 - 1) Try.prog 63 #[.pointer (some ⟨w.heap.size, 0, none⟩), .agg #[.int .i64 cl, .int .i64 sq, .int .i64 kd, .int .i64 id, .int .i64 mt, .string dt]] W (PutR layP w.heap.size s' acd avr ad ax W)) :=
      CallsIn.inRound l (callsIn_wide.2 (sput_r w.heap.size (stoOf q M) s' M.length cl sq kd id mt dt acd avr ad ax hA (by unfold maxLen; simp only at h64'; omega) (stoOf_fit HOLD.out.quo.1 HOLD.out.quo.2 M) hLl W hSI.sto))
    clear hSI hM hA hlt hr bX
    dsimp only [ReqV.val]
    gi_wp2_with fail
    refine ⟨trivial, (fun h => by cases h), HSP.out.mono ?_⟩
    rintro e W2 ⟨ao, cap, rfl, _, hbs, hst⟩
    have HBS := Lib.hid hbs
    have HST := Lib.hid hst
    clear hbs hst
    gi_wp2
    have hot : Only (· = w.heap.size) W W2 := HBS.out.only
    have hz := HZ2.out
    have hsz := HSI.out.size
    refine ⟨keepsFrom18 hot (fun x hx => ?_) _, ⟨hot.size, fun k hk hp => hot.block k hk ?_, fun hg => hot.cell (p := ⟨g, 1, none⟩) hg (by show ¬ g = w.heap.size; omega)⟩, ?_⟩
    · subst hx
      obtain ⟨_, ⟨cs, hh, _⟩, _⟩ := HSI.out.sto
      exact ⟨_, _, hh⟩
    · rcases hp with h | h | h | h
      · omega
      · omega
      · omega
      · have := (HOLD.out.row.nb k h).lt; omega
    · show SI w q ((pre ++ [(⟨⟨cl, sq, kd, id, mt, dt⟩, h64'⟩ : RqE)]).map (·.r)) W2
      rw [List.map_append, HMM.out]
      show SI w q (M ++ [⟨cl, sq, kd, id, mt, dt⟩]) W2
      refine ⟨(hot.block _ (by omega) (by omega)).trans HSI.out.box, ?_, hot.below HSI.out.bel (fun x hx => by omega) HSI.out.bel.size, Nat.le_trans hsz hot.size⟩
      rw [stoOf_app, HAA.out]
      exact HST.out
  case done =>
    rintro D ys W hD rfl hSI hK
    have hc := hSI.box.cell
    have HSI := Lib.hid hSI
    clear hSI
    gi_wp2
    refine ⟨by simp, .inl ⟨_, _, rfl, run_takeDeferred hK, ?_⟩⟩
    have hck := HCC.out
    have hz := HZ2.out
    have hz3 := HS3.out
    have hkl := HOLD.out.kle
    have hcq : cntQ L 0 (C : Int) = C := by unfold cntQ; omega
    have hlist : ((comeQ L 0 (cntQ L 0 (C : Int))).map entE).map (·.r) = L.take C := by
      rw [entE_map (L := comeQ L 0 (cntQ L 0 (C : Int))) (fun x hx => h64 x (List.mem_of_mem_drop (List.mem_of_mem_take hx))), hcq]
      rfl
    have hSJ := HSI.out.obj (grownBy_putObj' W D (.deferred none)) (fun r e => by cases e; exact ⟨by omega, _, hK, rfl⟩)
    have hSJ2 : SI w q (L.take C) (W.putObj D (.deferred none)) := by rw [← hlist]; exact hSJ
    exact ⟨_, results_tmp rfl _ _ _, rfl, by rw [← hck]; exact hSJ2.sto, hSJ2.bel⟩
  case stop =>
    rintro D c pre W _ _ h _
    exact h.elim
end Go.Proofs.Ytenjjgghoacboaa

/-! ## LnO -/
/-
  A LOG AS A LAW HAS IT: each call by contract, its own blocks apart from the law's. No condition but that a log has at most a hundred thousand requests.
-/
namespace Go.Proofs.Ytenjjgghoacboaa
open Go.RowKit

/-- What Put makes of a log, the place it tells, its error. -/
def lputV (L : List ReqV) (r : ReqV) : List ReqV × Int × Int := if ¬ r.puts then (L, 0, 1) else if r.seq ≤ seqL L r.client.toNat then (L, 0, 9) else (L ++ [r], (L.length : Int) + 1, 0)
theorem lputV_bad {L : List ReqV} {r : ReqV} (h : ¬ r.puts) : lputV L r = (L, 0, 1) := if_pos h
theorem lputV_old {L : List ReqV} {r : ReqV} (h : r.puts) (h2 : r.seq ≤ seqL L r.client.toNat) : lputV L r = (L, 0, 9) := by unfold lputV; rw [if_neg (fun h' => h' h), if_pos h2]
theorem lputV_yes {L : List ReqV} {r : ReqV} (h : r.puts) (h2 : ¬ r.seq ≤ seqL L r.client.toNat) : lputV L r = (L ++ [r], (L.length : Int) + 1, 0) := by unfold lputV; rw [if_neg (fun h' => h' h), if_neg h2]
theorem lputV_len (L : List ReqV) (r : ReqV) : L.length ≤ (lputV L r).1.length ∧ (lputV L r).1.length ≤ L.length + 1 := by
  unfold lputV
  split
  · exact ⟨Nat.le_refl _, Nat.le_succ _⟩
  · split
    · exact ⟨Nat.le_refl _, Nat.le_succ _⟩
    · simp

/-- A log with c committed; S its blocks; what lay below n is as it was in w. -/
structure GLo (n : Nat) (w : World) (g : Nat) (q : Int) (L : List ReqV) (c : Nat) (S : Nat → Prop) (u : World) : Prop where
  ls : ∃ d vq vr vp K, Lin u n g d vq vr vp q L K ∧ K.length = c ∧ S = LB g d vq vr vp
  bel : Below n w u
  nw : n ≤ w.heap.size
/-- What a call that turns a log leaves. -/
structure LTurn (n : Nat) (w : World) (g : Nat) (q : Int) (L' : List ReqV) (c' : Nat) (S S' : Nat → Prop) (u w' : World) : Prop where
  lo : GLo n w g q L' c' S' w'
  only : Only S u w'
  more : ∀ x, S' x → S x ∨ u.heap.size ≤ x
section
variable {n : Nat} {w u u' : World} {g : Nat} {q : Int} {L : List ReqV} {c : Nat} {S : Nat → Prop}
theorem GLo.size (h : GLo n w g q L c S u) : n ≤ u.heap.size := Nat.le_trans h.nw h.bel.size
theorem GLo.all (h : GLo n w g q L c S u) {x : Nat} (hx : S x) : NoBool u x ∧ x < u.heap.size ∧ n ≤ x := by
  obtain ⟨d, vq, vr, vp, K, H, _, rfl⟩ := h.ls
  exact H.all hx
theorem GLo.on (h : GLo n w g q L c S u) (hb : Below u.heap.size u u') : GLo n w g q L c S u' := by
  obtain ⟨d, vq, vr, vp, K, H, hk, hs⟩ := h.ls
  exact ⟨⟨d, vq, vr, vp, K, H.on hb, hk, hs⟩, h.bel.trans (hb.mono h.size), h.nw⟩
theorem GLo.keep {T : Nat → Prop} (h : GLo n w g q L c S u) (ho : Only T u u') (hs : ∀ x, S x → ¬ T x) (hn : ∀ x, T x → x < u.heap.size → NoBool u x ∧ n ≤ x) : GLo n w g q L c S u' := by
  obtain ⟨d, vq, vr, vp, K, H, hk, rfl⟩ := h.ls
  refine ⟨⟨d, vq, vr, vp, K, H.keep ho hs (fun x hx hl => (hn x hx hl).1), hk, rfl⟩, h.bel.trans ⟨ho.os, ho.tape, ho.output, ho.size, fun k hk => ho.block k (by have := h.size; omega) fun ht => ?_⟩, h.nw⟩
  have := (hn k ht (by have := h.size; omega)).2
  omega
theorem GLo.ok (h : GLo n w g q L c S u) : okL L ∧ c ≤ L.length ∧ 1 ≤ q ∧ q ≤ 100 := by
  obtain ⟨d, vq, vr, vp, K, H, hk, _⟩ := h.ls
  exact ⟨H.ok, hk ▸ H.kle, H.quo⟩
theorem GLo.turn (h : GLo n w g q L c S u) {L' : List ReqV} {c' : Nat} (w' : World) {d : Nat} {vq vr : Value} {vp : Nat → Value} {K : List RcV} (H : Lin w' n g d vq vr vp q L' K) (hk : K.length = c') (ho : Only S u w') (hm : ∀ z, LB g d vq vr vp z → S z ∨ u.heap.size ≤ z) : LTurn n w g q L' c' S (LB g d vq vr vp) u w' := by
  refine ⟨⟨⟨d, vq, vr, vp, K, H, hk, rfl⟩, h.bel.trans ⟨ho.os, ho.tape, ho.output, ho.size, fun k hk => ho.block k (by have := h.size; omega) fun hs => ?_⟩, h.nw⟩, ho, hm⟩
  have := (h.all hs).2.2
  omega
theorem GLo.still (h : GLo n w g q L c S u) (hb : Below u.heap.size u u') : LTurn n w g q L c S S u u' := ⟨h.on hb, .of hb, fun _ hx => .inl hx⟩
theorem GLo.len (h : GLo n w g q L c S u) : Calls Try.prog 15 #[.pointer (some ⟨g, 0, none⟩)] u fun e w' => e = .returned (.int .i64 L.length) ∧ u = w' := by
  obtain ⟨d, vq, vr, vp, K, H, hk, _⟩ := h.ls
  exact llen_r H
theorem GLo.com (h : GLo n w g q L c S u) : Calls Try.prog 16 #[.pointer (some ⟨g, 0, none⟩)] u fun e w' => e = .returned (.int .i64 c) ∧ u = w' := by
  obtain ⟨d, vq, vr, vp, K, H, rfl, _⟩ := h.ls
  exact lcom_r H
theorem GLo.seq (h : GLo n w g q L c S u) (hL : L.length ≤ 100000) (x M : Int) (hM : seqV L x = M) : Calls Try.prog 46 #[.pointer (some ⟨g, 0, none⟩), .int .i64 x] u fun e w' => e = .returned (.int .i64 M) ∧ Below u.heap.size u w' := by
  obtain ⟨d, vq, vr, vp, K, H, rfl, _⟩ := h.ls
  exact lseq_r H (by omega) x M hM
theorem GLo.last (h : GLo n w g q L c S u) (x M : Int) (hM : lastV18 L x = M) : Calls Try.prog 28 #[.pointer (some ⟨g, 0, none⟩), .int .i64 x] u fun e w' => e = .returned (.int .i64 M) ∧ u = w' := by
  obtain ⟨d, vq, vr, vp, K, H, rfl, _⟩ := h.ls
  exact llast_r H x M hM
theorem GLo.find (h : GLo n w g q L c S u) (hL : L.length ≤ 100000) (x y : Int) : Calls Try.prog 45 #[.pointer (some ⟨g, 0, none⟩), .int .i64 x, .int .i64 y] u (FindR L x y u) := by
  obtain ⟨d, vq, vr, vp, K, H, rfl, _⟩ := h.ls
  exact lfind_r H (by omega) x y
theorem GLo.since (h : GLo n w g q L c S u) (hL : L.length ≤ 100000) (k : Nat) (most : Int) : Calls Try.prog 18 #[.pointer (some ⟨g, 0, none⟩), .int .i64 k, .int .i64 most] u (SinceR (comeQ L k (cntQ L k most)) u) := by
  obtain ⟨d, vq, vr, vp, K, H, rfl, _⟩ := h.ls
  exact lsince_r H (by omega) k most
theorem GLo.store (h : GLo n w g q L c S u) (hL : L.length ≤ 100000) : Calls Try.prog 24 #[.pointer (some ⟨g, 0, none⟩)] u fun e w' => e = .returned (.pointer (some ⟨u.heap.size, 0, none⟩)) ∧ Sto layP w' u.heap.size (stoOf q (L.take c)) ∧ Below u.heap.size u w' := by
  obtain ⟨d, vq, vr, vp, K, H, rfl, _⟩ := h.ls
  exact callsIn_wide.1 (lstore_in 3 (Nat.le_refl _) H hL)
theorem GLo.replyNo (h : GLo n w g q L c S u) (i : Int) (hi : i < 1 ∨ c < i) : Calls Try.prog 22 #[.pointer (some ⟨g, 0, none⟩), .int .i64 i] u fun e w' => e = .returned (.tuple #[.agg #[.int .i64 0, .int .i64 0, .string ⟨#[]⟩, .slice none 0 0], .int .i64 6]) ∧ Below u.heap.size u w' := by
  obtain ⟨d, vq, vr, vp, K, H, rfl, _⟩ := h.ls
  exact lreply_no H i hi
/-- What Reply tells. -/
def RepR (cd vr : Int) (dt : ByteArray) (w : World) (e : Ending) (w' : World) : Prop := ∃ ao cap, e = .returned (.tuple #[.agg #[.int .i64 cd, .int .i64 vr, .string dt, .slice ao 0 cap], .int .i64 0]) ∧ Nil0 (.slice ao 0 cap) ∧ Below w.heap.size w w'
theorem GLo.replyYes (h : GLo n w g q L c S u) (hL : L.length ≤ 100000) (k : Nat) (hk : k < c) (A : PutA) (hA : putA (stoOf q (L.take k)) (atL L k) = A) : Calls Try.prog 22 #[.pointer (some ⟨g, 0, none⟩), .int .i64 ((k : Int) + 1)] u (RepR A.code A.ver A.data u) := by
  have hok := h.ok
  obtain ⟨d, vq, vr, vp, K, H, rfl, _⟩ := h.ls
  refine (lreply_yes H k hk (by omega)).mono fun e w' ⟨he, hb⟩ => ?_
  obtain ⟨r1, r2, r3, ao, cap, r4, r5, r6⟩ := H.rep k hk
  have e1 : rcV K k = K.getD k rc0 := rfl
  rw [e1, r1, r2, r3, r4, hA] at he
  exact ⟨ao, cap, he, ⟨ao, cap, rfl, r5, r6⟩, hb⟩
theorem GLo.comNo (h : GLo n w g q L c S u) (i : Int) (hi : i < c ∨ L.length < i) : Calls Try.prog 21 #[.pointer (some ⟨g, 0, none⟩), .int .i64 i] u fun e w' => e = .returned (.int .i64 6) ∧ Below u.heap.size u w' := by
  obtain ⟨d, vq, vr, vp, K, H, rfl, _⟩ := h.ls
  exact lcommit_no H i hi
/-- How Commit ends where it commits. -/
def ComR (n : Nat) (w : World) (g : Nat) (q : Int) (L : List ReqV) (c' : Nat) (S : Nat → Prop) (u : World) (e : Ending) (w' : World) : Prop := e = .returned (.int .i64 0) ∧ ∃ S', LTurn n w g q L c' S S' u w'
theorem GLo.comYes (h : GLo n w g q L c S u) (hL : L.length ≤ 100000) (c' : Nat) (h1 : c ≤ c') (h2 : c' ≤ L.length) : Calls Try.prog 21 #[.pointer (some ⟨g, 0, none⟩), .int .i64 c'] u (ComR n w g q L c' S u) := by
  have hsz := h.size
  obtain ⟨d, vq, vr, vp, K, H, rfl, hs⟩ := h.ls
  refine (lcommit_r H hL hsz c' h1 h2).mono fun e w' ⟨he, vr', K', H', hk', ho, hm⟩ => ⟨he, _, h.turn w' H' hk' (by rw [hs]; exact ho) (by rw [hs]; exact hm)⟩
/-- How Put ends. -/
def PutLR (n : Nat) (w : World) (g : Nat) (q : Int) (L' : List ReqV) (p x : Int) (c : Nat) (S : Nat → Prop) (u : World) (e : Ending) (w' : World) : Prop := e = .returned (.tuple #[.int .i64 p, .int .i64 x]) ∧ ∃ S', LTurn n w g q L' c S S' u w'
theorem GLo.put (h : GLo n w g q L c S u) (hL : L.length ≤ 100000) (cl sq kd id mt : Int) (dt : ByteArray) (hd : dt.size ≤ maxLen) (L' : List ReqV) (p x : Int) (hV : lputV L ⟨cl, sq, kd, id, mt, dt⟩ = (L', p, x)) :
    Calls Try.prog 19 #[.pointer (some ⟨g, 0, none⟩), .agg #[.int .i64 cl, .int .i64 sq, .int .i64 kd, .int .i64 id, .int .i64 mt, .string dt]] u (PutLR n w g q L' p x c S u) := by
  have hsz := h.size
  have hd' : dt.size ≤ 9223372036854775807 := by unfold maxLen at hd; omega
  obtain ⟨d, vq, vr, vp, K, H, hk, hs⟩ := h.ls
  by_cases hm : ReqV.may ⟨cl, sq, kd, id, mt, dt⟩
  · have HM : Hid (∀ u, Calls Try.prog 59 #[.agg #[.int .i64 cl, .int .i64 sq, .int .i64 kd, .int .i64 id, .int .i64 mt, .string dt]] u fun e w' => e = .returned (.bool true) ∧ Below u.heap.size u w') :=
      fun u => mayreq_r cl sq kd id mt dt hd' true (decide_eq_true hm).symm u
    have hm' := hm
    unfold ReqV.may at hm'
    simp only at hm'
    by_cases hw : kd ≤ 3
    · have HW : Hid (∀ u, Calls Try.prog 60 #[.agg #[.int .i64 cl, .int .i64 sq, .int .i64 kd, .int .i64 id, .int .i64 mt, .string dt]] u fun e w' => e = .returned (.bool true) ∧ Below u.heap.size u w') := by
        intro u
        have h := writes_any cl sq kd id mt dt u
        rwa [decide_eq_true (show 1 ≤ kd ∧ kd ≤ 3 by omega)] at h
      obtain ⟨c', rfl⟩ : ∃ c : Nat, cl = c := ⟨cl.toNat, by omega⟩
      obtain ⟨i, rfl⟩ : ∃ i : Nat, id = i := ⟨id.toNat, by omega⟩
      have hc : c' < 4 := by omega
      have hi : i < 32 := by omega
      have hsv : seqV L (c' : Int) = seqL L c' := by unfold seqV; rw [if_pos (by omega), Int.toNat_natCast]
      by_cases ho : sq ≤ seqL L c'
      · rw [lputV_old ⟨hm, hw⟩ (by show sq ≤ seqL L (c' : Int).toNat; rw [Int.toNat_natCast]; exact ho)] at hV
        simp only [Prod.mk.injEq] at hV
        obtain ⟨rfl, rfl, rfl⟩ := hV
        refine (lput_old H (by omega) c' sq kd i mt dt (seqL L c') hsv HM HW (fun u => newer_r c' sq kd i mt (seqL L c') dt hd' false ?_ u)).mono fun e w' ⟨he, hb⟩ => ⟨he, S, h.still hb⟩
        show _ = _
        rw [decide_eq_true hm, decide_eq_false (by omega)]
        rfl
      · rw [lputV_yes ⟨hm, hw⟩ (by show ¬ sq ≤ seqL L (c' : Int).toNat; rw [Int.toNat_natCast]; exact ho)] at hV
        simp only [Prod.mk.injEq] at hV
        obtain ⟨rfl, rfl, rfl⟩ := hV
        refine (lput_done H (by omega) hsz c' i hc hi sq kd mt dt (seqL L c') hsv (by omega) ⟨hm, hw⟩ HM HW (fun u => newer_r c' sq kd i mt (seqL L c') dt hd' true ?_ u) (fun u => key_r c' sq kd i mt dt hd' i (show _ = _ from (if_pos hm).symm) u)).mono fun e w' ⟨he, vq', vp', H', ho', hm'⟩ => ⟨he, _, h.turn w' H' hk (by rw [hs]; exact ho') (by rw [hs]; exact hm')⟩
        show _ = _
        rw [decide_eq_true hm, decide_eq_true (by omega)]
        rfl
    · have HW : Hid (∀ u, Calls Try.prog 60 #[.agg #[.int .i64 cl, .int .i64 sq, .int .i64 kd, .int .i64 id, .int .i64 mt, .string dt]] u fun e w' => e = .returned (.bool false) ∧ Below u.heap.size u w') := by
        intro u
        have h := writes_any cl sq kd id mt dt u
        rwa [decide_eq_false (show ¬ (1 ≤ kd ∧ kd ≤ 3) by omega)] at h
      rw [lputV_bad (fun hp => hw hp.2)] at hV
      simp only [Prod.mk.injEq] at hV
      obtain ⟨rfl, rfl, rfl⟩ := hV
      exact (lput_bad2 H cl sq kd id mt dt HM HW).mono fun e w' ⟨he, hb⟩ => ⟨he, S, h.still hb⟩
  · have HM : Hid (∀ u, Calls Try.prog 59 #[.agg #[.int .i64 cl, .int .i64 sq, .int .i64 kd, .int .i64 id, .int .i64 mt, .string dt]] u fun e w' => e = .returned (.bool false) ∧ Below u.heap.size u w') :=
      fun u => mayreq_r cl sq kd id mt dt hd' false (decide_eq_false hm).symm u
    rw [lputV_bad (fun hp => hm hp.1)] at hV
    simp only [Prod.mk.injEq] at hV
    obtain ⟨rfl, rfl, rfl⟩ := hV
    exact (lput_bad1 H cl sq kd id mt dt HM).mono fun e w' ⟨he, hb⟩ => ⟨he, S, h.still hb⟩
end
theorem glo_new (q : Int) (h1 : 1 ≤ q) (h2 : q ≤ 100) {n : Nat} {w0 w : World} (hb : Below n w0 w) (hn : n ≤ w0.heap.size) :
    Calls Try.prog 11 #[.int .i64 q] w fun e w' => ∃ g S, e = .returned (.tuple #[.pointer (some ⟨g, 0, none⟩), .int .i64 0]) ∧ Hid (GLo n w0 g q [] 0 S w' ∧ Below w.heap.size w w' ∧ ∀ x, S x → w.heap.size ≤ x) :=
  (lnew_yes q h1 h2 w).mono fun e w' ⟨he, H, hb'⟩ => by
    have hs := Nat.le_trans hn hb.size
    have H' : Lin w' n (w.heap.size + 1) w.heap.size (.slice none 0 0) (.slice none 0 0) (fun _ => .slice none 0 0) q [] [] := by
      obtain ⟨⟨a1, _, _, _, a5, a6, _, _⟩, k1, k2, k3, k4⟩ := H
      exact ⟨⟨a1, ORow.none _ _ _ _, ORow.none _ _ _ _, fun c _ => ORow.none _ _ _ _, a5, a6, by omega, by omega⟩, k1, k2, k3, k4⟩
    exact ⟨_, _, he, ⟨⟨_, _, _, _, _, H', rfl, rfl⟩, hb.trans (hb'.mono hs), hn⟩, hb', fun x hx => (H.all hx).2.2⟩
end Go.Proofs.Ytenjjgghoacboaa

/-! ## LnU -/
/-
  THE LOG's Take; what is told of few; TOLD: what casebooklaw18.told asks holds. No condition but that a log has at most a hundred thousand requests.
-/
namespace Go.Proofs.Ytenjjgghoacboaa
open Go.RowKit

set_option maxHeartbeats 1000000 in
theorem ltake_nil (k cl sq kd id mt : Int) (dt : ByteArray) (w : World) : Calls Try.prog 20 #[.pointer none, .int .i64 k, .agg #[.int .i64 cl, .int .i64 sq, .int .i64 kd, .int .i64 id, .int .i64 mt, .string dt]] w fun e w' => e = .returned (.int .i64 1) ∧ Below w.heap.size w w' := by
  have HM := Lib.hid (fun u => lmade_nil u)
  have HP := Lib.hid (fun u => lput_nil cl sq kd id mt dt u)
  have HA := Lib.hid ((Below.refl _ w).alloc (Nat.le_refl _) (.cells #[.int .i64 cl, .int .i64 sq, .int .i64 kd, .int .i64 id, .int .i64 mt, .string dt] 34))
  go_enter Try.func20, Try.ntmps20
  go_wp2_with fail
  refine (HM.out _).mono ?_
  rintro e w1 ⟨rfl, rfl⟩
  go_wp2_with fail
  refine (HP.out _).mono ?_
  rintro e w1 ⟨rfl, hb⟩
  have HB := Lib.hid (HA.out.trans (hb.mono (by simp)))
  clear hb
  go_wp2
  go_returns
  exact ⟨rfl, HB.out⟩
section
variable {n : Nat} {w u u' : World} {g : Nat} {q : Int} {L : List ReqV} {c : Nat} {S : Nat → Prop}
theorem GLo.made (h : GLo n w g q L c S u) : Calls Try.prog 58 #[.pointer (some ⟨g, 0, none⟩)] u fun e w' => e = .returned (.bool true) ∧ u = w' := by
  obtain ⟨d, vq, vr, vp, K, H, _, _⟩ := h.ls
  exact lmade_r H
set_option maxHeartbeats 1000000 in
theorem GLo.takeNo (h : GLo n w g q L c S u) (hL : L.length ≤ 100000) (k : Int) (hk : k ≠ L.length + 1) (cl sq kd id mt : Int) (dt : ByteArray) :
    Calls Try.prog 20 #[.pointer (some ⟨g, 0, none⟩), .int .i64 k, .agg #[.int .i64 cl, .int .i64 sq, .int .i64 kd, .int .i64 id, .int .i64 mt, .string dt]] u fun e w' => e = .returned (.int .i64 9) ∧ Below u.heap.size u w' := by
  have HM := Lib.hid (fun o => (h.on ((Below.refl _ _).alloc (Nat.le_refl _) o)).made)
  have HLN := Lib.hid (fun o => (h.on ((Below.refl _ _).alloc (Nat.le_refl _) o)).len)
  obtain ⟨N, hN⟩ : ∃ N, N = L.length := ⟨_, rfl⟩
  rw [← hN] at HLN hk hL
  have hkb : (k != (N : Int) + 1) = true := by simpa using hk
  clear h hN hk
  go_enter Try.func20, Try.ntmps20
  go_wp2_with fail
  refine (HM.out _).mono ?_
  rintro e w1 ⟨rfl, rfl⟩
  go_wp2_with fail
  refine (HLN.out _).mono ?_
  rintro e w1 ⟨rfl, rfl⟩
  go_wp2
  go_returns
  exact ⟨rfl, by go_grown⟩
/-- How Take ends where the place is the next one. -/
def TakeR (n : Nat) (w : World) (g : Nat) (q : Int) (L' : List ReqV) (x : Int) (c : Nat) (S : Nat → Prop) (u : World) (e : Ending) (w' : World) : Prop := e = .returned (.int .i64 x) ∧ ∃ S', LTurn n w g q L' c S S' u w'
set_option maxHeartbeats 1000000 in
theorem GLo.takeYes (h : GLo n w g q L c S u) (hL : L.length ≤ 100000) (cl sq kd id mt : Int) (dt : ByteArray) (hd : dt.size ≤ maxLen) (L' : List ReqV) (p x : Int) (hV : lputV L ⟨cl, sq, kd, id, mt, dt⟩ = (L', p, x)) :
    Calls Try.prog 20 #[.pointer (some ⟨g, 0, none⟩), .int .i64 ((L.length : Int) + 1), .agg #[.int .i64 cl, .int .i64 sq, .int .i64 kd, .int .i64 id, .int .i64 mt, .string dt]] u (TakeR n w g q L' x c S u) := by
  have HM := Lib.hid (fun o => (h.on ((Below.refl _ _).alloc (Nat.le_refl _) o)).made)
  have HLN := Lib.hid (fun o => (h.on ((Below.refl _ _).alloc (Nat.le_refl _) o)).len)
  have HP := Lib.hid (fun o => (h.on ((Below.refl _ _).alloc (Nat.le_refl _) o)).put hL cl sq kd id mt dt hd L' p x hV)
  obtain ⟨N, hN⟩ : ∃ N, N = L.length := ⟨_, rfl⟩
  rw [← hN] at HLN hL ⊢
  clear h hN hV hd
  go_enter Try.func20, Try.ntmps20
  go_wp2_with fail
  refine (HM.out _).mono ?_
  rintro e w1 ⟨rfl, rfl⟩
  go_wp2_with fail
  refine (HLN.out _).mono ?_
  rintro e w1 ⟨rfl, rfl⟩
  go_wp2_with fail
  refine (HP.out _).mono ?_
  rintro e w1 ⟨rfl, S', ht⟩
  have HT := Lib.hid ht
  clear ht
  go_wp2
  go_returns
  exact ⟨rfl, S', HT.out.lo, (Only.alloc _ _ _).trans HT.out.only, fun x hx => (HT.out.more x hx).imp (fun h => h) (fun h => by simp at h; omega)⟩
end

/-! ### told -/
def tq18 : ReqV := ⟨1, 2, 1, 3, 0, ⟨#[120]⟩⟩
/-- The law's log and its request's box. -/
structure TK (n : Nat) (w : World) (g : Nat) (L : List ReqV) (c : Nat) (S : Nat → Prop) (b : Nat) (u : World) : Prop where
  lo : GLo n w g 5 L c S u
  rb : ReqB u b 1 2 1 3 0 ⟨#[120]⟩
  nb : ¬ S b
section
variable {n : Nat} {w u u' : World} {g : Nat} {L L' : List ReqV} {c c' : Nat} {S S' : Nat → Prop} {b : Nat}
theorem TK.on (h : TK n w g L c S b u) (hb : Below u.heap.size u u') : TK n w g L c S b u' := ⟨h.lo.on hb, h.rb.keep hb h.rb.lt, h.nb⟩
theorem TK.turn (h : TK n w g L c S b u) (t : LTurn n w g 5 L' c' S S' u u') : TK n w g L' c' S' b u' :=
  ⟨t.lo, h.rb.only t.only h.nb, fun hs => (t.more b hs).elim h.nb (fun hx => by have := h.rb.lt; omega)⟩
end
set_option maxRecDepth 100000 in
set_option maxHeartbeats 4000000 in
theorem told18_any (w : World) : Calls Try.prog 12 #[] w fun e w' => e = .returned (.bool true) ∧ Below w.heap.size w w' := by
  obtain ⟨n, hn⟩ : ∃ n, n = w.heap.size := ⟨_, rfl⟩
  have HN : Hid (Calls Try.prog 11 #[.int .i64 5] w fun e w' => ∃ g S, e = .returned (.tuple #[.pointer (some ⟨g, 0, none⟩), .int .i64 0]) ∧ Hid (GLo n w g 5 [] 0 S w' ∧ Below w.heap.size w w' ∧ ∀ x, S x → w.heap.size ≤ x)) := glo_new 5 (by decide) (by decide) (Below.refl _ _) (Nat.le_of_eq hn)
  have HK : Hid (∀ g S u, GLo n w g 5 [] 0 S u → TK n w g [] 0 S u.heap.size (u.alloc (.cells #[.int .i64 1, .int .i64 2, .int .i64 1, .int .i64 3, .int .i64 0, .string ⟨#[120]⟩] 34))) :=
    fun g S u h => ⟨h.on ((Below.refl _ _).alloc (Nat.le_refl _) _), ReqB.fresh u 1 2 1 3 0 ⟨#[120]⟩ 34, fun hs => by have := (h.all hs).2.1; omega⟩
  have hV1 : lputV [] tq18 = ([tq18], 1, 0) := lputV_yes (by decide) (by decide)
  have hV2 : lputV [tq18] tq18 = ([tq18], 0, 9) := lputV_old (by decide) (by decide)
  have H1 : Hid (∀ g S b u, TK n w g [] 0 S b u → Calls Try.prog 19 #[.pointer (some ⟨g, 0, none⟩), .agg #[.int .i64 1, .int .i64 2, .int .i64 1, .int .i64 3, .int .i64 0, .string ⟨#[120]⟩]] u fun e w' => e = .returned (.tuple #[.int .i64 1, .int .i64 0]) ∧ ∃ S', Hid (TK n w g [tq18] 0 S' b w')) :=
    fun g S b u h => (h.lo.put (by decide) 1 2 1 3 0 ⟨#[120]⟩ (by decide) _ _ _ hV1).mono fun _ _ ⟨he, S', ht⟩ => ⟨he, S', h.turn ht⟩
  have H2 : Hid (∀ g S b u, TK n w g [tq18] 0 S b u → Calls Try.prog 19 #[.pointer (some ⟨g, 0, none⟩), .agg #[.int .i64 1, .int .i64 2, .int .i64 1, .int .i64 3, .int .i64 0, .string ⟨#[120]⟩]] u fun e w' => e = .returned (.tuple #[.int .i64 0, .int .i64 9]) ∧ ∃ S', Hid (TK n w g [tq18] 0 S' b w')) :=
    fun g S b u h => (h.lo.put (by decide) 1 2 1 3 0 ⟨#[120]⟩ (by decide) _ _ _ hV2).mono fun _ _ ⟨he, S', ht⟩ => ⟨he, S', h.turn ht⟩
  have H3 : Hid (∀ g S b u, TK n w g [tq18] 0 S b u → Calls Try.prog 20 #[.pointer (some ⟨g, 0, none⟩), .int .i64 5, .agg #[.int .i64 1, .int .i64 2, .int .i64 1, .int .i64 3, .int .i64 0, .string ⟨#[120]⟩]] u fun e w' => e = .returned (.int .i64 9) ∧ Hid (TK n w g [tq18] 0 S b w')) :=
    fun g S b u h => (h.lo.takeNo (by decide) 5 (by decide) 1 2 1 3 0 ⟨#[120]⟩).mono fun _ _ ⟨he, hb⟩ => ⟨he, h.on hb⟩
  have H4 : Hid (∀ g S b u, TK n w g [tq18] 0 S b u → Calls Try.prog 22 #[.pointer (some ⟨g, 0, none⟩), .int .i64 1] u fun e w' => e = .returned (.tuple #[.agg #[.int .i64 0, .int .i64 0, .string ⟨#[]⟩, .slice none 0 0], .int .i64 6]) ∧ Hid (TK n w g [tq18] 0 S b w')) :=
    fun g S b u h => (h.lo.replyNo 1 (by decide)).mono fun _ _ ⟨he, hb⟩ => ⟨he, h.on hb⟩
  have H5 : Hid (∀ g S b u, TK n w g [tq18] 0 S b u → Calls Try.prog 21 #[.pointer (some ⟨g, 0, none⟩), .int .i64 1] u fun e w' => e = .returned (.int .i64 0) ∧ ∃ S', Hid (TK n w g [tq18] 1 S' b w')) :=
    fun g S b u h => (h.lo.comYes (by decide) 1 (by decide) (by decide)).mono fun _ _ ⟨he, S', ht⟩ => ⟨he, S', h.turn ht⟩
  have H6 : Hid (∀ g S b u, TK n w g [tq18] 1 S b u → Calls Try.prog 22 #[.pointer (some ⟨g, 0, none⟩), .int .i64 1] u fun e w' => ∃ ao cap, e = .returned (.tuple #[.agg #[.int .i64 1, .int .i64 1, .string ⟨#[]⟩, .slice ao 0 cap], .int .i64 0]) ∧ Hid (TK n w g [tq18] 1 S b w')) :=
    fun g S b u h => (h.lo.replyYes (by decide) 0 (by decide) _ rfl).mono fun _ _ ⟨ao, cap, he, _, hb⟩ => ⟨ao, cap, he, h.on hb⟩
  have H7 : Hid (∀ g S b u, TK n w g [tq18] 1 S b u → Calls Try.prog 45 #[.pointer (some ⟨g, 0, none⟩), .int .i64 1, .int .i64 2] u fun e w' => e = .returned (.tuple #[.int .i64 1, .bool true]) ∧ Hid (TK n w g [tq18] 1 S b w' ∧ Below u.heap.size u w')) :=
    fun g S b u h => (h.lo.find (by decide) 1 2).mono fun e w' ⟨p, f, he, hf, hb⟩ => by
      rcases hf with ⟨rfl, k, rfl, h1, _, _⟩ | ⟨rfl, rfl, hno⟩
      · obtain rfl : k = 0 := by simp at h1; omega
        exact ⟨he, h.on hb, hb⟩
      · exact absurd ⟨by decide, by decide, by decide⟩ (hno 0)
  have H8 : Hid (∀ g S b u, TK n w g [tq18] 1 S b u → Calls Try.prog 28 #[.pointer (some ⟨g, 0, none⟩), .int .i64 3] u fun e w' => e = .returned (.int .i64 1) ∧ u = w') := fun g S b u h => h.lo.last 3 1 (by decide)
  have H9 : Hid (∀ g S b u, TK n w g [tq18] 1 S b u → Calls Try.prog 46 #[.pointer (some ⟨g, 0, none⟩), .int .i64 1] u fun e w' => e = .returned (.int .i64 2) ∧ Hid (TK n w g [tq18] 1 S b w')) := fun g S b u h => (h.lo.seq (by decide) 1 2 (by decide)).mono fun _ _ ⟨he, hb⟩ => ⟨he, h.on hb⟩
  have H10 : Hid (∀ g S b u, TK n w g [tq18] 1 S b u → Calls Try.prog 18 #[.pointer (some ⟨g, 0, none⟩), .int .i64 0, .int .i64 5] u fun e w' => (∃ a c, e = .returned (.slice a 1 c)) ∧ Hid (TK n w g [tq18] 1 S b w')) :=
    fun g S b u h => (h.lo.since (by decide) 0 5).mono fun _ _ ⟨v, he, ho, hb⟩ => by
      obtain ⟨a, c, rfl⟩ := own_shape ho
      exact ⟨⟨a, c, he⟩, h.on hb⟩
  have H11 : Hid (∀ g S b u, TK n w g [tq18] 1 S b u → Calls Try.prog 21 #[.pointer (some ⟨g, 0, none⟩), .int .i64 2] u fun e w' => e = .returned (.int .i64 6) ∧ Hid (TK n w g [tq18] 1 S b w')) := fun g S b u h => (h.lo.comNo 2 (by decide)).mono fun _ _ ⟨he, hb⟩ => ⟨he, h.on hb⟩
  have HNN := Lib.hid hn
  clear hV1 hV2 hn
  go_enter Try.func12, Try.ntmps12
  go_wp2_with fail
  refine HN.out.mono ?_
  rintro e w1 ⟨g, S, rfl, T1⟩
  have K1 := Lib.hid (HK.out g S w1 T1.out.1)
  obtain ⟨b, hb⟩ : ∃ b, b = w1.heap.size := ⟨_, rfl⟩
  obtain ⟨w2, hw2⟩ : ∃ w2, w2 = w1.alloc (.cells #[.int .i64 1, .int .i64 2, .int .i64 1, .int .i64 3, .int .i64 0, .string ⟨#[120]⟩] 34) := ⟨_, rfl⟩
  rw [← hb, ← hw2] at K1
  have HW2 := Lib.hid hw2
  have HBB := Lib.hid hb
  have hcells := K1.out.rb.cells
  rw [hw2, hb] at hcells
  obtain ⟨e0, e1, e2, e3, e4, e5⟩ := hcells
  clear hw2 hb T1 HN HK
  go_wp2_with fail
  rw [← HW2.out, ← HBB.out]
  clear e0 e1 e2 e3 e4 e5 HW2 HBB
  refine (H1.out g S b w2 K1.out).mono ?_
  rintro e w3 ⟨rfl, S3, K3⟩
  obtain ⟨e0, e1, e2, e3, e4, e5⟩ := K3.out.rb.cells
  go_wp2_with fail
  clear e0 e1 e2 e3 e4 e5
  refine (H2.out g S3 b w3 K3.out).mono ?_
  rintro e w4 ⟨rfl, S4, K4⟩
  obtain ⟨e0, e1, e2, e3, e4, e5⟩ := K4.out.rb.cells
  go_wp2_with fail
  clear e0 e1 e2 e3 e4 e5
  refine (H3.out g S4 b w4 K4.out).mono ?_
  rintro e w5 ⟨rfl, K5⟩
  go_wp2_with fail
  refine (H4.out g S4 b w5 K5.out).mono ?_
  rintro e w6 ⟨rfl, K6⟩
  go_wp2_with fail
  have K7 := Lib.hid (K6.out.on ((Below.refl _ _).alloc (Nat.le_refl _) (.cells #[.int .i64 0, .int .i64 0, .string ⟨#[]⟩, .slice none 0 0] 48)))
  refine (H5.out g S4 b _ K7.out).mono ?_
  rintro e w7 ⟨rfl, S5, K8⟩
  go_wp2_with fail
  refine (H6.out g S5 b w7 K8.out).mono ?_
  rintro e w8 ⟨ao, cap, rfl, K9⟩
  go_wp2_with fail
  have K10 := Lib.hid (K9.out.on ((Below.refl _ _).alloc (Nat.le_refl _) (.cells #[.int .i64 1, .int .i64 1, .string ⟨#[]⟩, .slice ao 0 cap] 48)))
  refine (H7.out g S5 b _ K10.out).mono ?_
  rintro e w9 ⟨rfl, K11⟩
  have RB : w9.heap[w8.heap.size]? = some (.cells #[.int .i64 1, .int .i64 1, .string ⟨#[]⟩, .slice ao 0 cap] 48) := (K11.out.2.block _ (by simp)).trans (heap_alloc_new w8 _)
  have r0 : w9.cell? ⟨w8.heap.size, 0, none⟩ = some (.int .i64 1) := by simp [World.cell?, RB]
  have K12 := Lib.hid K11.out.1
  clear K11
  go_wp2_with fail
  clear r0 RB
  refine (H8.out g S5 b w9 K12.out).mono ?_
  rintro e w10 ⟨rfl, rfl⟩
  go_wp2_with fail
  refine (H9.out g S5 b w9 K12.out).mono ?_
  rintro e w11 ⟨rfl, K13⟩
  go_wp2_with fail
  refine (H10.out g S5 b w11 K13.out).mono ?_
  rintro e w12 ⟨⟨ax, cx, rfl⟩, K14⟩
  go_wp2_with fail
  refine (H11.out g S5 b w12 K14.out).mono ?_
  rintro e w13 ⟨rfl, K15⟩
  have K16 := Lib.hid K15.out.lo.bel
  clear K1 K3 K4 K5 K6 K7 K8 K9 K10 K12 K13 K14 K15 H1 H2 H3 H4 H5 H6 H7 H8 H9 H10 H11
  go_wp2
  go_returns
  exact ⟨rfl, by rw [← HNN.out]; exact K16.out⟩
end Go.Proofs.Ytenjjgghoacboaa

/-! ## LnX -/
/-
  REQUESTS OF A ROW, as Since tells them; two rows of one list are the same to the reference's Reqs. No condition but that a list has at most a million requests.
-/
namespace Go.Proofs.Ytenjjgghoacboaa
open Go.RowKit

theorem own_cell {w : World} {n : Nat} {e : TypeId} {size : Nat} {v : Value} {len : Nat} {xs : List Value} (h : w.ownsRow n e size v len xs) (j : Nat) (x : Value) (hx : xs[j]? = some x) : ∃ b c, v = .slice (some ⟨b, 0, Option.none⟩) len c ∧ len ≤ c ∧ n ≤ b ∧ b < w.heap.size ∧ w.cell? ⟨b, j, Option.none⟩ = some x := by
  rcases h.2 with ⟨rfl, h0⟩ | ⟨g, cap, cur, rfl, hlow, hg, hle, _, _, ht⟩
  · have hl := h.1
    rw [h0, Nat.zero_mul] at hl
    rw [List.eq_nil_of_length_eq_zero hl] at hx
    simp at hx
  · refine ⟨g, cap, rfl, hle, hlow, lt_of_block hg, ?_⟩
    rw [cell_of_row _ _ _ _ _ _ hg, ← Array.getElem?_toList]
    rw [← ht, List.getElem?_take] at hx
    split at hx
    · exact hx
    · cases hx
/-- The requests of a row. -/
def AllAt (v : Value) (L : List ReqV) (u : World) : Prop := ∀ k, k < L.length → ∃ b c, v = .slice (some ⟨b, 0, none⟩) L.length c ∧ L.length ≤ c ∧ b < u.heap.size ∧ ReqCells u b (k * 6) (atL L k)
theorem AllAt.of {v : Value} {L : List ReqV} {B : Nat} {u : World} (h : u.ownsRow B 34 6 v L.length (reqCs L)) : AllAt v L u := by
  intro k hk
  have hg := reqCs_get L k hk
  obtain ⟨b, c, e, hc, _, hb, c0⟩ := own_cell h (k * 6) _ (by have := hg 0 (by omega); rw [Nat.add_zero] at this; exact this)
  have hj : ∀ j x, j < 6 → (reqC (atL L k))[j]? = some x → u.cell? ⟨b, k * 6 + j, none⟩ = some x := by
    intro j x hj hx
    obtain ⟨b', c', e', _, _, _, cj⟩ := own_cell h (k * 6 + j) x ((hg j hj).trans hx)
    rw [e] at e'
    simp only [Value.slice.injEq, Option.some.injEq, Addr.mk.injEq] at e'
    obtain ⟨⟨rfl, _, _⟩, _, rfl⟩ := e'
    exact cj
  exact ⟨b, c, e, hc, hb, hj 0 _ (by omega) rfl, hj 1 _ (by omega) rfl, hj 2 _ (by omega) rfl, hj 3 _ (by omega) rfl, hj 4 _ (by omega) rfl, hj 5 _ (by omega) rfl⟩
theorem AllAt.on {v : Value} {L : List ReqV} {u u' : World} (h : AllAt v L u) (hb : Below u.heap.size u u') : AllAt v L u' := fun k hk => by
  obtain ⟨b, c, e, hc, hl, a0, a1, a2, a3, a4, a5⟩ := h k hk
  have hx : ∀ o, u'.cell? ⟨b, o, none⟩ = u.cell? ⟨b, o, none⟩ := fun o => hb.cell (p := ⟨b, o, none⟩) hl
  exact ⟨b, c, e, hc, Nat.lt_of_lt_of_le hl hb.size, (hx _).trans a0, (hx _).trans a1, (hx _).trans a2, (hx _).trans a3, (hx _).trans a4, (hx _).trans a5⟩

set_option maxRecDepth 100000 in
set_option maxHeartbeats 2000000 in
theorem refreqs_same (a a2 : Option Addr) (N c c2 : Nat) (L : List ReqV) (w : World) (hN : N = L.length) (hN1 : N ≤ 1000000) (h1 : AllAt (.slice a N c) L w) (h2 : AllAt (.slice a2 N c2) L w) :
    Calls Try.prog 17 #[.slice a N c, .slice a2 N c2] w fun e w' => e = .returned (.bool true) ∧ Below w.heap.size w w' := by
  have H1 := Lib.hid h1
  have H2 := Lib.hid h2
  have HN := Lib.hid hN
  have HW : Hid (Below w.heap.size w w) := Below.refl _ _
  clear h1 h2 hN
  go_enter Try.func17, Try.ntmps17
  go_wp2
  go_loopw [5] (fun v wr => ∃ k : Nat, k ≤ N ∧ v = .int .i64 k ∧ Hid (Below w.heap.size w wr)) (fun v _ => N - (intOf v).toNat)
  case atStart => exact ⟨0, Nat.zero_le _, rfl, HW⟩
  case round =>
    clear HW
    obtain ⟨k, hk, rfl, HW⟩ := hrel
    by_cases hlt : k < N
    · have hkL : k < L.length := by rw [← HN.out]; exact hlt
      obtain ⟨b, d, hv, _, _, hc⟩ := H1.out.on HW.out k hkL
      obtain ⟨b2, d2, hv2, _, _, hc2⟩ := H2.out.on HW.out k hkL
      simp only [Value.slice.injEq] at hv hv2
      obtain ⟨rfl, -, rfl⟩ := hv
      obtain ⟨rfl, -, rfl⟩ := hv2
      have k0 : (0 : Int) ≤ (k : Int) := by omega
      have k1 : (k : Int) < (N : Int) := by omega
      obtain ⟨x0, x1, x2, x3, x4, x5⟩ := hc
      obtain ⟨y0, y1, y2, y3, y4, y5⟩ := hc2
      generalize atL L k = q at x0 x1 x2 x3 x4 x5 y0 y1 y2 y3 y4 y5
      obtain ⟨cl, sq, kd, id, mt, dt⟩ := q
      simp only at x0 x1 x2 x3 x4 x5 y0 y1 y2 y3 y4 y5
      clear hkL
      go_upto_region 6 with fail
      go_quiet (fail)
      go_wp2
      go_roundw
      case rel => exact ⟨k + 1, by omega, by go_num, HW.out.trans ⟨rfl, rfl, rfl, Nat.le_refl _, fun _ _ => rfl⟩⟩
      case measure => simp [intOf]; omega
    · obtain rfl : k = N := by omega
      go_wp2
      go_returns
      exact ⟨rfl, HW.out⟩
end Go.Proofs.Ytenjjgghoacboaa

/-! ## LnY -/
/-
  TWO LOGS APART, as LineFollows has them: what one is asked leaves the other as it is.
-/
namespace Go.Proofs.Ytenjjgghoacboaa
open Go.RowKit

/-- Whoever takes the next request of a log has it. -/
theorem lput_next {L : List ReqV} (h : okL L) {k : Nat} (hk : k < L.length) : lputV (L.take k) (atL L k) = (L.take (k + 1), (k : Int) + 1, 0) := by
  obtain ⟨hp, hs⟩ := h k hk
  rw [lputV_yes hp (by omega), take_next hk, List.length_take, Nat.min_eq_left (by omega)]
/-- LTwo logs, no block of the one is the other's. -/
structure LTwo (n : Nat) (w : World) (g1 g2 : Nat) (L M : List ReqV) (c1 c2 : Nat) (S1 S2 : Nat → Prop) (u : World) : Prop where
  a : GLo n w g1 6 L c1 S1 u
  b : GLo n w g2 6 M c2 S2 u
  ne : ∀ x, S1 x → ¬ S2 x
section
variable {n : Nat} {w u u' : World} {g1 g2 : Nat} {L L' M M' : List ReqV} {c1 c1' c2 c2' : Nat} {S1 S1' S2 S2' : Nat → Prop}
theorem LTwo.on (h : LTwo n w g1 g2 L M c1 c2 S1 S2 u) (hb : Below u.heap.size u u') : LTwo n w g1 g2 L M c1 c2 S1 S2 u' := ⟨h.a.on hb, h.b.on hb, h.ne⟩
theorem LTwo.first (h1 : GLo n w g1 6 L c1 S1 u) (h2 : GLo n w g2 6 M c2 S2 u') (hb : Below u.heap.size u u') (hs : ∀ x, S2 x → u.heap.size ≤ x) : LTwo n w g1 g2 L M c1 c2 S1 S2 u' :=
  ⟨h1.on hb, h2, fun x h k => by have := hs x k; have := (h1.all h).2.1; omega⟩
theorem LTwo.turnA (h : LTwo n w g1 g2 L M c1 c2 S1 S2 u) (t : LTurn n w g1 6 L' c1' S1 S1' u u') : LTwo n w g1 g2 L' M c1' c2 S1' S2 u' :=
  ⟨t.lo, h.b.keep t.only (fun x hx k => h.ne x k hx) (fun _ hx _ => ⟨(h.a.all hx).1, (h.a.all hx).2.2⟩), fun x hx k => (t.more x hx).elim (fun h' => h.ne x h' k) (fun h' => by have := (h.b.all k).2.1; omega)⟩
theorem LTwo.turnB (h : LTwo n w g1 g2 L M c1 c2 S1 S2 u) (t : LTurn n w g2 6 M' c2' S2 S2' u u') : LTwo n w g1 g2 L M' c1 c2' S1 S2' u' :=
  ⟨h.a.keep t.only (fun x hx k => h.ne x hx k) (fun _ hx _ => ⟨(h.b.all hx).1, (h.b.all hx).2.2⟩), t.lo, fun x hx k => (t.more x k).elim (fun h' => h.ne x hx h') (fun h' => by have := (h.a.all hx).2.1; omega)⟩
theorem LTwo.put (h : LTwo n w g1 g2 L M c1 c2 S1 S2 u) (hL : L.length ≤ 100000) (cl sq kd id mt : Int) (dt : ByteArray) (hd : dt.size ≤ maxLen) (p x : Int) (hV : lputV L ⟨cl, sq, kd, id, mt, dt⟩ = (L', p, x)) :
    Calls Try.prog 19 #[.pointer (some ⟨g1, 0, none⟩), .agg #[.int .i64 cl, .int .i64 sq, .int .i64 kd, .int .i64 id, .int .i64 mt, .string dt]] u fun e w' => e = .returned (.tuple #[.int .i64 p, .int .i64 x]) ∧ ∃ S1', Hid (LTwo n w g1 g2 L' M c1 c2 S1' S2 w') :=
  (h.a.put hL cl sq kd id mt dt hd L' p x hV).mono fun _ _ ⟨he, S', t⟩ => ⟨he, S', h.turnA t⟩
theorem LTwo.takeNo (h : LTwo n w g1 g2 L M c1 c2 S1 S2 u) (hM : M.length ≤ 100000) (k : Int) (hk : k ≠ M.length + 1) (cl sq kd id mt : Int) (dt : ByteArray) :
    Calls Try.prog 20 #[.pointer (some ⟨g2, 0, none⟩), .int .i64 k, .agg #[.int .i64 cl, .int .i64 sq, .int .i64 kd, .int .i64 id, .int .i64 mt, .string dt]] u fun e w' => e = .returned (.int .i64 9) ∧ Below u.heap.size u w' ∧ Hid (LTwo n w g1 g2 L M c1 c2 S1 S2 w') :=
  (h.b.takeNo hM k hk cl sq kd id mt dt).mono fun _ _ ⟨he, hb⟩ => ⟨he, hb, h.on hb⟩
theorem LTwo.takeYes {k : Nat} (h : LTwo n w g1 g2 L (L.take k) c1 c2 S1 S2 u) (hL : L.length ≤ 100000) (hk : k < L.length) (cl sq kd id mt : Int) (dt : ByteArray) (hq : atL L k = ⟨cl, sq, kd, id, mt, dt⟩) (hd : dt.size ≤ maxLen) :
    Calls Try.prog 20 #[.pointer (some ⟨g2, 0, none⟩), .int .i64 ((k : Int) + 1), .agg #[.int .i64 cl, .int .i64 sq, .int .i64 kd, .int .i64 id, .int .i64 mt, .string dt]] u fun e w' => e = .returned (.int .i64 0) ∧ Only S2 u w' ∧ ∃ S2', (∀ x, S2' x → S2 x ∨ u.heap.size ≤ x) ∧ LTwo n w g1 g2 L (L.take (k + 1)) c1 c2 S1 S2' w' := by
  have hlen : (L.take k).length = k := by rw [List.length_take, Nat.min_eq_left (by omega)]
  have hV := lput_next h.a.ok.1 hk
  rw [hq] at hV
  have hc := h.b.takeYes (by rw [hlen]; omega) cl sq kd id mt dt hd _ _ _ hV
  rw [hlen] at hc
  exact hc.mono fun _ _ ⟨he, S', t⟩ => ⟨he, t.only, S', t.more, h.turnB t⟩
theorem LTwo.comA (h : LTwo n w g1 g2 L M c1 c2 S1 S2 u) (hL : L.length ≤ 100000) : Calls Try.prog 21 #[.pointer (some ⟨g1, 0, none⟩), .int .i64 L.length] u fun e w' => e = .returned (.int .i64 0) ∧ ∃ S1', Hid (LTwo n w g1 g2 L M L.length c2 S1' S2 w') :=
  (h.a.comYes hL L.length h.a.ok.2.1 (Nat.le_refl _)).mono fun _ _ ⟨he, S', t⟩ => ⟨he, S', h.turnA t⟩
theorem LTwo.comB (h : LTwo n w g1 g2 L M c1 c2 S1 S2 u) (hM : M.length ≤ 100000) : Calls Try.prog 21 #[.pointer (some ⟨g2, 0, none⟩), .int .i64 M.length] u fun e w' => e = .returned (.int .i64 0) ∧ ∃ S2', Hid (LTwo n w g1 g2 L M c1 M.length S1 S2' w') :=
  (h.b.comYes hM M.length h.b.ok.2.1 (Nat.le_refl _)).mono fun _ _ ⟨he, S', t⟩ => ⟨he, S', h.turnB t⟩
end
theorem AllAt.only {T : Nat → Prop} {v : Value} {Q : List ReqV} {u u' : World} (h : AllAt v Q u) (ho : Only T u u') (hn : ∀ b c, v = .slice (some ⟨b, 0, none⟩) Q.length c → ¬ T b) : AllAt v Q u' := fun k hk => by
  obtain ⟨b, c, e, hc, hl, a0, a1, a2, a3, a4, a5⟩ := h k hk
  have hx : ∀ o, u'.cell? ⟨b, o, none⟩ = u.cell? ⟨b, o, none⟩ := fun o => World.cell?_of_block (a := ⟨b, o, none⟩) (ho.block b hl (hn b c e))
  exact ⟨b, c, e, hc, Nat.lt_of_lt_of_le hl ho.size, (hx _).trans a0, (hx _).trans a1, (hx _).trans a2, (hx _).trans a3, (hx _).trans a4, (hx _).trans a5⟩
theorem comeQ_at {L : List ReqV} {k i j : Nat} (hj : j < i) : atL (comeQ L k i) j = atL L (k + j) := by
  unfold comeQ atL
  rw [List.getD_eq_getElem?_getD, List.getD_eq_getElem?_getD, List.getElem?_take, if_pos hj, List.getElem?_drop]
/-- Two logs, the second one a beginning of the first, and a piece of the first in a row. -/
structure LFol (n : Nat) (w : World) (g1 g2 : Nat) (L : List ReqV) (k : Nat) (v : Value) (Q : List ReqV) (S1 S2 : Nat → Prop) (u : World) : Prop where
  two : LTwo n w g1 g2 L (L.take k) 0 0 S1 S2 u
  all : AllAt v Q u
  nb : ∀ b c, v = .slice (some ⟨b, 0, none⟩) Q.length c → ¬ S2 b ∧ b < u.heap.size
section
variable {n : Nat} {w u u' : World} {g1 g2 : Nat} {L Q : List ReqV} {k : Nat} {v : Value} {S1 S2 : Nat → Prop}
theorem LFol.on (h : LFol n w g1 g2 L k v Q S1 S2 u) (hb : Below u.heap.size u u') : LFol n w g1 g2 L k v Q S1 S2 u' := ⟨h.two.on hb, h.all.on hb, fun b c e => ⟨(h.nb b c e).1, Nat.lt_of_lt_of_le (h.nb b c e).2 hb.size⟩⟩
theorem LFol.first (h : LTwo n w g1 g2 L (L.take k) 0 0 S1 S2 u) (hb : Below u.heap.size u u') (hr : u'.ownsRow u.heap.size 34 6 v Q.length (reqCs Q)) : LFol n w g1 g2 L k v Q S1 S2 u' :=
  ⟨h.on hb, .of hr, fun b c e => by
    have h2 := hr.lt b (by rw [e]; rfl)
    exact ⟨fun hs => by have h1 := (h.b.all hs).2.1; omega, h2.2⟩⟩
theorem LFol.len (h : LFol n w g1 g2 L k v Q S1 S2 u) (hk : k ≤ L.length) : Calls Try.prog 15 #[.pointer (some ⟨g2, 0, none⟩)] u fun e w' => e = .returned (.int .i64 k) ∧ u = w' := by
  have h' := h.two.b.len
  rwa [List.length_take, Nat.min_eq_left hk] at h'
theorem LFol.takeYes (h : LFol n w g1 g2 L k v Q S1 S2 u) (hL : L.length ≤ 100000) (hk : k < L.length) (cl sq kd id mt : Int) (dt : ByteArray) (hq : atL L k = ⟨cl, sq, kd, id, mt, dt⟩) (hd : dt.size ≤ maxLen) :
    Calls Try.prog 20 #[.pointer (some ⟨g2, 0, none⟩), .int .i64 ((k : Int) + 1), .agg #[.int .i64 cl, .int .i64 sq, .int .i64 kd, .int .i64 id, .int .i64 mt, .string dt]] u fun e w' => e = .returned (.int .i64 0) ∧ ∃ S2', Hid (LFol n w g1 g2 L (k + 1) v Q S1 S2' w') :=
  (h.two.takeYes hL hk cl sq kd id mt dt hq hd).mono fun _ _ ⟨he, ho, S', hm, t⟩ => ⟨he, S', t, h.all.only ho fun b c e => (h.nb b c e).1, fun b c e => ⟨fun hs => (hm b hs).elim (h.nb b c e).1 fun hu => by have := (h.nb b c e).2; omega, Nat.lt_of_lt_of_le (h.nb b c e).2 ho.size⟩⟩
theorem LFol.takeNo (h : LFol n w g1 g2 L k v Q S1 S2 u) (hL : L.length ≤ 100000) (x : Int) (hk : k ≤ L.length) (hx : x ≠ k + 1) (cl sq kd id mt : Int) (dt : ByteArray) :
    Calls Try.prog 20 #[.pointer (some ⟨g2, 0, none⟩), .int .i64 x, .agg #[.int .i64 cl, .int .i64 sq, .int .i64 kd, .int .i64 id, .int .i64 mt, .string dt]] u fun e w' => e = .returned (.int .i64 9) ∧ Hid (LFol n w g1 g2 L k v Q S1 S2 w') := by
  have hlen : (L.take k).length = k := by rw [List.length_take, Nat.min_eq_left hk]
  exact (h.two.takeNo (by rw [hlen]; omega) x (by rw [hlen]; exact hx) cl sq kd id mt dt).mono fun _ _ ⟨he, hb, _⟩ => ⟨he, h.on hb⟩
end
end Go.Proofs.Ytenjjgghoacboaa
