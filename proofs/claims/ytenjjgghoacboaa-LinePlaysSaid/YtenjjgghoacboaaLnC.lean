/-
  THE LOG's Since: what its iterator yields, collected. No condition but that a log has at most a million requests.
-/
import Derived.Test.YtenjjgghoacboaaLnR
import Derived.Test.YtenjjgghoacboaaLnQ
namespace Go.Proofs.Ytenjjgghoacboaa
open Go.RowKit Go.Shelf

attribute [local go_sem] Oper.semAt_some

theorem rowLow18 {w : World} {base base' : Nat} {e : TypeId} {size : Nat} {v : Value} {n : Nat} {xs : List Value} (h : w.ownsRow base e size v n xs) (hb : base' ≤ base) : w.ownsRow base' e size v n xs := by
  refine ⟨h.1, ?_⟩
  rcases h.2 with h0 | ⟨g, cap, cur, rfl, hr, rest⟩
  · exact .inl h0
  · exact .inr ⟨g, cap, cur, rfl, by omega, rest⟩
theorem reqC_one (r : ReqV) : ∀ u ∈ reqC r, u.oneCell' = true := by
  intro u hu
  simp only [reqC, List.mem_cons, List.not_mem_nil, or_false] at hu
  rcases hu with rfl | rfl | rfl | rfl | rfl | rfl <;> rfl
theorem req_new (W : World) (r : ReqV) (x : Array Value) (hx : x = (reqC r).toArray) : ∀ j u, (reqC r)[j]? = some u → (W.alloc (.cells x 34)).cell? ((⟨W.heap.size, 0, none⟩ : Addr).add j) = some u := by
  intro j u hj
  rw [Addr.add_lit, Nat.zero_add, hx, cell_of_row _ _ _ _ _ _ (heap_alloc_new W _), List.getElem?_toArray]
  exact hj

set_option maxRecDepth 100000 in
set_option maxHeartbeats 4000000 in
theorem appseq_in (m : Nat) (hm : 3 ≤ m) (R : Nat) (P : Nat → Prop) (g : Nat) (pv : Option Addr) (n : Nat) (most : Int) (L : List ReqV) (hL : L.length ≤ 1000000) (w : World) (hR : R + 3 ≤ w.heap.size) (hPR : ∀ k, P k → k < R) (hgR : g < R)
    (hg : ∀ u, Below w.heap.size w u → AskQ (KeepQ R P g) pv L u) (hp : Boxed w R 23 (.pointer pv)) (hq : Boxed w (R + 1) 3 (.int .i64 n)) (hr : Boxed w (R + 2) 3 (.int .i64 most)) :
    CallsIn Fence.wide m Try.prog 93 #[.slice none 0 0, .func (.func 94) #[] #[.pointer (some ⟨R + 1, 0, none⟩), .pointer (some ⟨R, 0, none⟩), .pointer (some ⟨R + 2, 0, none⟩)]] w fun e W' =>
      ∃ v, e = .returned v ∧ W'.ownsRow w.heap.size 34 6 v (comeQ L n (cntQ L n most)).length (reqCs (comeQ L n (cntQ L n most))) ∧ Below w.heap.size w W' := by
  have h1 : 1 ≤ m := by omega
  have hro : Fence.wide.round = none := rfl
  obtain ⟨i0, hi, hz0, hz1, hz2⟩ := info_parts info_Req18
  have HW := Lib.hid hg
  have HP := Lib.hid hp
  have HQ := Lib.hid hq
  have HRR := Lib.hid hr
  clear hg hp hq hr
  refine callsIn_of_wp_marks Try.func93 rfl trivial ?_ hro
  simp only [Try.ntmps93, List.size_toArray, List.length_cons, List.length_nil, Nat.reduceAdd, Nat.reduceSub, Array.replicate_succ, Array.replicate_zero, List.push_toArray, List.append_toArray, List.nil_append, List.cons_append]
  gi_wp2_with fail
  obtain ⟨w3, hw3⟩ : ∃ w3, w3 = w.alloc (.cells #[.slice none 0 0] 29) := ⟨_, rfl⟩
  have hs3 : w3.heap.size = w.heap.size + 1 := by rw [hw3]; simp
  have hB3 : Below w.heap.size w w3 := by rw [hw3]; exact (Below.refl _ w).alloc (Nat.le_refl _) _
  have hX3 : Boxed w3 w.heap.size 29 (.slice none 0 0) := by rw [hw3]; exact Boxed.new w 29 _
  rw [← hw3]
  clear hw3
  refine wpIn_rangeFunc_ownH hro h1 (gf := 94) (lb := #[.pointer (some ⟨R + 1, 0, none⟩), .pointer (some ⟨R, 0, none⟩), .pointer (some ⟨R + 2, 0, none⟩)]) rfl trivial (enters_of Try.func94 (by kernel_rfl) rfl)
    (behind_stops (m - 1) R P g pv n most L w3 (by omega) (fun u hu => HW.out u (hB3.trans (hu.mono (by omega)))) ((hB3.block _ (by omega)).trans HP.out) ((hB3.block _ (by omega)).trans HQ.out) ((hB3.block _ (by omega)).trans HRR.out))
    (fun h k => KeepQ.trans h k) (fun W l o o' hl ho h1 h2 => KeepQ.of hPR hgR ((belowK_b (w := w3) (Nat.le_refl _) W l o o' hl ho h1 h2).mono (by omega))) (Below.refl _ _) (fun _ => rfl)
    (fun pre W => (∃ v, Boxed W w.heap.size 29 v ∧ W.ownsRow w.heap.size 34 6 v pre.length (reqCs pre) ∧ True) ∧ Below w.heap.size w W)
    (fun _ _ _ => False)
    (OwnFrom.and (Own.from (holdsRow_own w.heap.size w.heap.size 29 34 6 (fun pre : List ReqV => pre.length) (fun pre => reqCs pre) (fun _ _ => True)) _) (ownFrom_below (Nat.le_refl _) (by omega)))
    (fun _ _ _ _ _ hs _ _ => hs)
    ⟨⟨_, hX3, World.ownsRow_nil _ _ _ _, trivial⟩, hB3⟩
    (fun r a' W => ∃ Bx, W.heap[Bx]? = some (.cells (reqC r).toArray 34 (0, 0)) ∧ a' = { tmps := #[.slice none 0 0, .func (.func 94) #[] #[.pointer (some ⟨R + 1, 0, none⟩), .pointer (some ⟨R, 0, none⟩), .pointer (some ⟨R + 2, 0, none⟩)], .pointer (some ⟨w.heap.size, 0, none⟩), undef, .slice none 0 0, .pointer (some ⟨Bx, 0, none⟩),
        .func (.func 94) #[] #[.pointer (some ⟨R + 1, 0, none⟩), .pointer (some ⟨R, 0, none⟩), .pointer (some ⟨R + 2, 0, none⟩)], r.val, undef, undef, undef, undef, undef], defers := [] })
    (fun x a' => fun s X Y row ⟨Bx, hbx, ha⟩ hg hr => ⟨Bx, cells_row hbx hg (fun r e => (hr r e).2), ha⟩) ?assign ?body ?done ?stop
  case assign =>
    rintro l pre ⟨cl, sq, kd, id, mt, dt⟩ W K ⟨hi, hB⟩ hK
    obtain ⟨v, hv, hrow, _⟩ := hi
    simp only [encQ, ReqV.val]
    gi_wp2
    have hb1 : Below W.heap.size W (W.alloc (.cells #[.int .i64 cl, .int .i64 sq, .int .i64 kd, .int .i64 id, .int .i64 mt, .string dt] 34)) := (Below.refl _ W).alloc (Nat.le_refl _) _
    exact hK _ _ ((KeepsOthers.alloc _ _).from _) (KeepQ.of hPR hgR (hb1.mono (by have := hB.size; omega))) ⟨⟨v, hv.alloc _, hrow.alloc _, trivial⟩, hB.trans (hb1.mono hB.size)⟩ ⟨W.heap.size, heap_alloc_new W _, rfl⟩
  case body =>
    rintro l pre ⟨cl, sq, kd, id, mt, dt⟩ a' W hl ⟨rr, hr⟩ ⟨⟨v, hv, hrow, _⟩, hB⟩ ⟨Bx, bX, rfl⟩ hlt
    have hc := hv.cell
    have hl6 : pre.length < 1000000 := Nat.lt_of_lt_of_le hlt hL
    obtain ⟨x0, x1, x2, x3, x4, x5⟩ := ReqB.cells (show ReqB W Bx cl sq kd id mt dt from ⟨_, bX⟩)
    clear hlt bX hr
    dsimp only [ReqV.val]
    gi_wp2_with (gi_at_builtin; refine wpListIn_append_own _ rfl _ _ 29 rfl w.heap.size 34 i0 (.agg #[.int .i64 0, .int .i64 0, .int .i64 0, .int .i64 0, .int .i64 0, .string ⟨#[]⟩]) 6 56 Try.underlying29 hi hz0 hz1 hz2 rfl (by decide) _ _ _ rfl (hrow.alloc _) ⟨W.heap.size, 0, none⟩ 1 1 (reqC ⟨cl, sq, kd, id, mt, dt⟩) rfl rfl (req_new W ⟨cl, sq, kd, id, mt, dt⟩ _ rfl) (reqC_one _) (by unfold maxLen; omega) (by omega) (by have := hB.size; simp; omega) ?_; intro v' w1 hown' hgrow _; obtain ⟨g', cap', rfl⟩ := ownsRow_succ hown'; obtain ⟨hv1, hv2, hr2, hk2, hb2⟩ := hv.appended (by decide) hrow hB.size (Nat.le_refl _) hown' hgrow; have hc1 := hv1.cell; have hf1 := hv1.frozen)
    exact ⟨hk2.from _, KeepQ.of hPR hgR (hb2.mono hR), ⟨_, hv2, by rw [List.length_append, ← reqCs_app]; exact hr2, trivial⟩, hB.trans hb2⟩
  case done =>
    rintro D ys W hD rfl ⟨⟨v, hv, hrow, _⟩, hB⟩ hK
    have hc := hv.cell
    obtain ⟨a', c', rfl⟩ := own_shape hrow
    gi_wp2
    refine ⟨by simp, .inl ⟨_, _, rfl, run_takeDeferred hK, ?_⟩⟩
    exact ⟨_, results_tmp rfl _ _ _, _, rfl, ownsRow_putObj hrow _ hK rfl, hB.trans (belowK_b (w := w) (Nat.le_refl _) W D _ _ (by omega) hK rfl rfl)⟩
  case stop =>
    rintro D c pre W _ _ h _
    exact h.elim

set_option maxRecDepth 100000 in
set_option maxHeartbeats 1000000 in
theorem collect_r (R : Nat) (P : Nat → Prop) (g : Nat) (pv : Option Addr) (n : Nat) (most : Int) (L : List ReqV) (hL : L.length ≤ 1000000) (w : World) (hR : R + 3 ≤ w.heap.size) (hPR : ∀ k, P k → k < R) (hgR : g < R)
    (hg : ∀ u, Below w.heap.size w u → AskQ (KeepQ R P g) pv L u) (hp : Boxed w R 23 (.pointer pv)) (hq : Boxed w (R + 1) 3 (.int .i64 n)) (hr : Boxed w (R + 2) 3 (.int .i64 most)) :
    Calls Try.prog 56 #[.func (.func 94) #[] #[.pointer (some ⟨R + 1, 0, none⟩), .pointer (some ⟨R, 0, none⟩), .pointer (some ⟨R + 2, 0, none⟩)]] w fun e W' =>
      ∃ v, e = .returned v ∧ W'.ownsRow w.heap.size 34 6 v (comeQ L n (cntQ L n most)).length (reqCs (comeQ L n (cntQ L n most))) ∧ Below w.heap.size w W' := by
  have HA := Lib.hid (callsIn_wide.1 (appseq_in 3 (Nat.le_refl _) R P g pv n most L hL w hR hPR hgR hg hp hq hr))
  clear hg hp hq hr
  go_enter Try.func56, Try.ntmps56
  go_wp2_with fail
  refine HA.out.mono ?_
  rintro e w1 ⟨v, rfl, h1, h2⟩
  have H1 := Lib.hid h1
  have H2 := Lib.hid h2
  clear h1 h2
  go_wp2
  go_returns
  exact ⟨v, rfl, H1.out, H2.out⟩
set_option maxHeartbeats 400000 in
theorem lsince_neg (p : Option Addr) (n most : Int) (hn : n < 0) (w : World) : Calls Try.prog 18 #[.pointer p, .int .i64 n, .int .i64 most] w fun e w' => e = .returned (.slice none 0 0) ∧ w = w' := by
  go_enter Try.func18, Try.ntmps18
  go_wp2
  go_returns
  exact ⟨rfl, rfl⟩
/-- What Since tells of requests. -/
def SinceR (ys : List ReqV) (w : World) (e : Ending) (w' : World) : Prop := ∃ v, e = .returned v ∧ w'.ownsRow w.heap.size 34 6 v ys.length (reqCs ys) ∧ Below w.heap.size w w'
theorem SinceR.of {ys : List ReqV} {w : World} {e : Ending} {w' : World} (v : Value) (he : e = .returned v) (h1 : w'.ownsRow w.heap.size 34 6 v ys.length (reqCs ys)) (h2 : Below w.heap.size w w') : SinceR ys w e w' := ⟨v, he, h1, h2⟩
theorem box3 (w : World) (a b c : Obj) : (((w.alloc a).alloc b).alloc c).heap[w.heap.size]? = some a ∧ (((w.alloc a).alloc b).alloc c).heap[w.heap.size + 1]? = some b ∧ (((w.alloc a).alloc b).alloc c).heap[w.heap.size + 2]? = some c ∧ Below w.heap.size w (((w.alloc a).alloc b).alloc c) ∧ (((w.alloc a).alloc b).alloc c).heap.size = w.heap.size + 3 := by
  have h1 := heap_alloc_new w a
  have h2 := heap_alloc_new (w.alloc a) b
  have h3 := heap_alloc_new ((w.alloc a).alloc b) c
  rw [World.size_alloc] at h2
  rw [World.size_alloc, World.size_alloc] at h3
  refine ⟨((((Below.refl _ _).alloc (Nat.le_refl _) _).alloc (by simp) _).block w.heap.size (by simp)).trans h1, (((Below.refl _ _).alloc (Nat.le_refl _) _).block (w.heap.size + 1) (by simp)).trans h2, h3, (((Below.refl _ w).alloc (Nat.le_refl _) _).alloc (by simp) _).alloc (by simp; omega) _, by simp⟩
set_option maxRecDepth 100000 in
set_option maxHeartbeats 1000000 in
theorem lsince_any (pv : Option Addr) (P : Nat → Prop) (g : Nat) (n : Nat) (most : Int) (L : List ReqV) (hL : L.length ≤ 1000000) (w : World) (hPR : ∀ k, P k → k < w.heap.size) (hgR : g < w.heap.size)
    (hg : ∀ u, Below w.heap.size w u → AskQ (KeepQ w.heap.size P g) pv L u) :
    Calls Try.prog 18 #[.pointer pv, .int .i64 n, .int .i64 most] w (SinceR (comeQ L n (cntQ L n most)) w) := by
  obtain ⟨b1, b2, b3, bb, bs⟩ := box3 w (.cells #[.pointer pv] 23) (.cells #[.int .i64 n] 3) (.cells #[.int .i64 most] 3)
  have HB : Hid (Calls Try.prog 57 #[.pointer pv, .int .i64 n, .int .i64 most] w _) := Lib.hid (behind_any pv n most w)
  obtain ⟨w1, hw1⟩ : ∃ w1, w1 = ((w.alloc (.cells #[.pointer pv] 23)).alloc (.cells #[.int .i64 n] 3)).alloc (.cells #[.int .i64 most] 3) := ⟨_, rfl⟩
  rw [← hw1] at b1 b2 b3 bb bs HB
  have HC := Lib.hid (collect_r w.heap.size P g pv n most L hL w1 (by omega) hPR hgR (fun u hu => hg u (bb.trans (hu.mono (by omega)))) b1 b2 b3)
  have HBB := Lib.hid bb
  have HBS := Lib.hid bs
  have n0 : (0 : Int) ≤ (n : Int) := by omega
  clear b1 b2 b3 bb bs hw1 hg
  go_enter Try.func18, Try.ntmps18
  go_wp2_with fail
  refine HB.out.mono ?_
  rintro e w2 ⟨rfl, rfl⟩
  go_wp2_with fail
  refine HC.out.mono ?_
  rintro e w2 ⟨v, rfl, h1, h2⟩
  have H1 := Lib.hid h1
  have H2 := Lib.hid h2
  clear h1 h2
  go_wp2
  go_returns
  exact SinceR.of v rfl (rowLow18 H1.out (by have := HBS.out; omega)) (HBB.out.trans (H2.out.mono (by have := HBS.out; omega)))
theorem lsince_r {w : World} {n0 g d : Nat} {vq vr : Value} {vp : Nat → Value} {q : Int} {L : List ReqV} {K : List RcV} (H : Lin w n0 g d vq vr vp q L K) (hL : L.length ≤ 1000000) (n : Nat) (most : Int) :
    Calls Try.prog 18 #[.pointer (some ⟨g, 0, none⟩), .int .i64 n, .int .i64 most] w (SinceR (comeQ L n (cntQ L n most)) w) :=
  lsince_any _ (fun k => vq.ownBlock = some k) g n most L hL w (fun k hk => (H.row.nb k hk).lt) H.lt (fun _ hu => .of (H.on hu) hL _)
theorem lsince_nil (n : Nat) (most : Int) (w : World) (hw : 0 < w.heap.size) : Calls Try.prog 18 #[.pointer none, .int .i64 n, .int .i64 most] w (SinceR [] w) := by
  have h := lsince_any none (fun _ => False) 0 n most [] (Nat.zero_le _) w (fun _ h => h.elim) hw (fun _ _ => AskQ.nobody _ _)
  have e : comeQ [] n (cntQ [] n most) = [] := by simp [comeQ]
  rwa [e] at h
end Go.Proofs.Ytenjjgghoacboaa
