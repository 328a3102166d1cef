/-
  THE PROGRAM's find, Has, Above, Below, Head, Tail. Of chains of at most a million nodes.
-/
import Derived.Test.YtaaffceanjpmbaaChainA
namespace Go.Proofs.Ytaaffceanjpmbaa
open Go.RowKit Go.Shelf

attribute [local go_sem] Oper.semAt_some

set_option maxHeartbeats 400000 in
theorem chspots_any (ep : Int) (v : Value) (w : World) : Calls Try.prog 61 #[.agg #[.int .i64 ep, v]] w fun e w' => e = .returned (.func (.func 81) #[] #[.pointer (some ⟨w.heap.size, 0, none⟩)]) ∧ w' = w.alloc (.cells #[.int .i64 ep, v] 28) := by
  go_enter Try.func61, Try.ntmps61
  go_wp2
  go_ret
  exact ⟨rfl, rfl⟩

theorem spots_stops (n Bs n₀ B : Nat) (ep : Int) (v0 : Value) (w0 : World) (L : List Int) (hlim : L.length ≤ 1000000) (hI : Ints w0 B v0 L) (hBn : B ≤ n₀) (w : World) (hBw : Below B w0 w) (hn₀ : n₀ ≤ w.heap.size) (hbox : ChB w Bs ep v0) :
    SeqStopsK Fence.wide n Try.prog 81 #[.pointer (some ⟨Bs, 0, none⟩)] encSp (KeepB n₀ Bs) (fun ys => ys = spotsOf L L.length) (fun pre => ∃ k, k ≤ L.length ∧ pre = spotsOf L k) L.length w := fun l J Jx W hW hJa _ hY h0 =>
  spots1_in n l Bs n₀ B ep v0 w0 L hlim hI hBn J Jx hY W (Nat.le_trans hn₀ hW.size) hJa (hBw.trans (hW.mono (by omega))) (hbox.keep hW hbox.lt) h0

/-- Block b holds who stands where; block b holds a bool. -/
def SpB (w : World) (b : Nat) (x : SpotV) : Prop := w.heap[b]? = some (.cells #[.int .i64 x.ab, .int .i64 x.nd, .int .i64 x.bl] 97 (0, 0))
def BoB (w : World) (b : Nat) (x : Bool) : Prop := w.heap[b]? = some (.cells #[.bool x] 4 (0, 0))
theorem SpB.cells {w : World} {b : Nat} {x : SpotV} (h : SpB w b x) : (w.cell? ⟨b, 0, none⟩ = some (.int .i64 x.ab) ∧ w.cell? ⟨b, 1, none⟩ = some (.int .i64 x.nd) ∧ w.cell? ⟨b, 2, none⟩ = some (.int .i64 x.bl)) ∧
    (w.frozen? ⟨b, 0, none⟩ = false ∧ w.frozen? ⟨b, 1, none⟩ = false ∧ w.frozen? ⟨b, 2, none⟩ = false) := by
  have h' : w.heap[b]? = some (.cells #[.int .i64 x.ab, .int .i64 x.nd, .int .i64 x.bl] 97 (0, 0)) := h
  refine ⟨⟨?_, ?_, ?_⟩, ⟨?_, ?_, ?_⟩⟩ <;> simp [World.cell?, World.frozen?, h']
theorem BoB.cells {w : World} {b : Nat} {x : Bool} (h : BoB w b x) : w.cell? ⟨b, 0, none⟩ = some (.bool x) ∧ w.frozen? ⟨b, 0, none⟩ = false := by
  have h' : w.heap[b]? = some (.cells #[.bool x] 4 (0, 0)) := h
  refine ⟨?_, ?_⟩ <;> simp [World.cell?, World.frozen?, h']
theorem cells_own {X Y : World} {row : Option Nat} {b : Nat} {cs : Array Value} {e : TypeId} {fr : Nat × Nat} (h : X.heap[b]? = some (.cells cs e fr)) (hg : X.grownBy Y row) (hrow : ∀ r, row = some r → ∃ o : Obj, X.heap[r]? = some o ∧ o.isCells = false) : Y.heap[b]? = some (.cells cs e fr) :=
  (hg.block b (lt_of_block h) (fun e' => by obtain ⟨o, ho, hc⟩ := hrow b e'.symm; rw [h] at ho; cases ho; cases hc)).trans h

/-- Who stands where, and a bool, stored. -/
def sbW (W : World) (R : Nat) (x : SpotV) (r : Bool) : World := (((W.setCell ⟨R, 0, none⟩ (.int .i64 x.ab)).setCell ⟨R, 1, none⟩ (.int .i64 x.nd)).setCell ⟨R, 2, none⟩ (.int .i64 x.bl)).setCell ⟨R + 1, 0, none⟩ (.bool r)
theorem sb_stored {W : World} {R : Nat} {y : SpotV} {r0 : Bool} (h : SpB W R y) (f : BoB W (R + 1) r0) (x : SpotV) (r : Bool) :
    SpB (sbW W R x r) R x ∧ BoB (sbW W R x r) (R + 1) r ∧ KeepsOthers W (sbW W R x r) ∧ ∀ B w, Below B w W → B ≤ R → Below B w (sbW W R x r) := by
  have h0 : (W.setCell ⟨R, 0, none⟩ (.int .i64 x.ab)).heap[R]? = some (.cells #[.int .i64 x.ab, .int .i64 y.nd, .int .i64 y.bl] 97 (0, 0)) := by rw [heap_setCell_same _ _ _ _ _ _ h]; rfl
  have h1 : ((W.setCell ⟨R, 0, none⟩ (.int .i64 x.ab)).setCell ⟨R, 1, none⟩ (.int .i64 x.nd)).heap[R]? = some (.cells #[.int .i64 x.ab, .int .i64 x.nd, .int .i64 y.bl] 97 (0, 0)) := by rw [heap_setCell_same _ _ _ _ _ _ h0]; rfl
  have h2 : (((W.setCell ⟨R, 0, none⟩ (.int .i64 x.ab)).setCell ⟨R, 1, none⟩ (.int .i64 x.nd)).setCell ⟨R, 2, none⟩ (.int .i64 x.bl)).heap[R]? = some (.cells #[.int .i64 x.ab, .int .i64 x.nd, .int .i64 x.bl] 97 (0, 0)) := by rw [heap_setCell_same _ _ _ _ _ _ h1]; rfl
  have f0 : (((W.setCell ⟨R, 0, none⟩ (.int .i64 x.ab)).setCell ⟨R, 1, none⟩ (.int .i64 x.nd)).setCell ⟨R, 2, none⟩ (.int .i64 x.bl)).heap[R + 1]? = some (.cells #[.bool r0] 4 (0, 0)) := by
    rw [Below.heap_setCell _ _ _ _ (by simp), Below.heap_setCell _ _ _ _ (by simp), Below.heap_setCell _ _ _ _ (by simp)]
    exact f
  refine ⟨?_, ?_, ?_, fun B w hb hR => (((hb.setCell (p := ⟨R, 0, none⟩) hR _).setCell (p := ⟨R, 1, none⟩) hR _).setCell (p := ⟨R, 2, none⟩) hR _).setCell (p := ⟨R + 1, 0, none⟩) (Nat.le_succ_of_le hR) _⟩
  · show (sbW W R x r).heap[R]? = _
    unfold sbW
    rw [Below.heap_setCell _ _ _ _ (by simp)]
    exact h2
  · show (sbW W R x r).heap[R + 1]? = _
    unfold sbW
    rw [heap_setCell_same _ _ _ _ _ _ f0]
    rfl
  · exact (((KeepsOthers.setCell _ _ _).trans (KeepsOthers.setCell _ _ _)).trans (KeepsOthers.setCell _ _ _)).trans (KeepsOthers.setCell _ _ _)

/-- Where he stands first, and whether he does. -/
def findV (L : List Int) (x : Int) : SpotV × Bool := if x ∈ L then (⟨abvV L x, x, blwV L x⟩, true) else (⟨-1, x, -1⟩, false)
theorem find_hit {L : List Int} {x : Int} {k : Nat} {p : List SpotV} {y : SpotV} (hk : k ≤ L.length) (hp : p ++ [y] = spotsOf L k) (hy : y.nd = x) (hn : ∀ z ∈ p, z.nd ≠ x) : findV L x = (y, true) := by
  cases k with
  | zero => have := congrArg List.length hp; rw [spotsOf_length] at this; simp at this
  | succ k =>
    rw [spotsOf_succ] at hp
    obtain ⟨rfl, h⟩ := List.append_inj' hp rfl
    obtain rfl : y = spotOf L k := by simpa using h
    have hnt : x ∉ L.take k := fun h => by
      rw [← spotsOf_nodes L k (by omega)] at h
      obtain ⟨z, hz, he⟩ := List.mem_map.1 h
      exact hn z hz he
    obtain ⟨h1, h2⟩ := idx_first hk hy hnt
    unfold findV abvV blwV
    rw [if_pos h1, if_pos h1, if_pos h1, h2]
    subst hy
    rfl
theorem find_miss {L : List Int} {x : Int} {p : List SpotV} (hp : p = spotsOf L L.length) (hn : ∀ z ∈ p, z.nd ≠ x) : findV L x = (⟨-1, x, -1⟩, false) := by
  unfold findV
  rw [if_neg]
  intro h
  have := spotsOf_nodes L L.length (Nat.le_refl _)
  rw [List.take_length, ← hp] at this
  rw [← this] at h
  obtain ⟨z, hz, he⟩ := List.mem_map.1 h
  exact hn z hz he

set_option maxRecDepth 100000 in
set_option maxHeartbeats 4000000 in
theorem chfind_in (n B : Nat) (hn : 3 ≤ n) (ep : Int) (v : Value) (L : List Int) (hlim : L.length ≤ 1000000) (x : Int) (w : World) (hI : Ints w B v L) (hB : B ≤ w.heap.size) {a b c : Int} {r : Bool} (hR : findV L x = (⟨a, b, c⟩, r)) :
    CallsIn Fence.wide n Try.prog 92 #[.agg #[.int .i64 ep, v], .int .i64 x] w fun e w' => e = .returned (.tuple #[.agg #[.int .i64 a, .int .i64 b, .int .i64 c], .bool r]) ∧ Below w.heap.size w w' := by
  have hro : Fence.wide.round = none := rfl
  have h1 : 1 ≤ n := by omega
  obtain ⟨a0, c0, rfl⟩ : ∃ a c, v = .slice a L.length c := by obtain ⟨a, c, h, _⟩ := hI; exact ⟨a, c, h⟩
  have HB := Lib.hid hI
  have HR := Lib.hid hR
  clear hI hR
  refine callsIn_of_wp_marks Try.func92 rfl trivial ?_ hro
  simp only [Try.ntmps92, List.size_toArray, List.length_cons, List.length_nil, Nat.reduceAdd, Nat.reduceSub, Array.replicate_succ, Array.replicate_zero, List.push_toArray, List.append_toArray, List.nil_append, List.cons_append]
  gi_wp2_with (refine ⟨trivial, ?_⟩; refine (callsIn_wide.2 (chspots_any _ _ _)).mono ?_; rintro e w' ⟨rfl, rfl⟩)
  obtain ⟨m, hm⟩ : ∃ m, m = L.length := ⟨_, rfl⟩
  obtain ⟨w3, hw3⟩ : ∃ w3, w3 = ((((w.alloc (.cells #[.int .i64 ep, .slice a0 L.length c0] 28)).alloc (.cells #[.int .i64 x] 3)).alloc (.cells #[.int .i64 0, .int .i64 0, .int .i64 0] 97)).alloc (.cells #[.bool false] 4)).alloc (.cells #[.int .i64 ep, .slice a0 L.length c0] 28) := ⟨_, rfl⟩
  have hs3 : w3.heap.size = w.heap.size + 5 := by rw [hw3]; simp
  have hB3 : Below w.heap.size w w3 := by rw [hw3]; exact (((((Below.refl _ w).alloc (Nat.le_refl _) _).alloc (by simp) _).alloc (by simp; omega) _).alloc (by simp; omega) _).alloc (by simp; omega) _
  have hN3 : Boxed w3 (w.heap.size + 1) 3 (.int .i64 x) := by
    rw [hw3]
    have := (((Boxed.new (w.alloc (.cells #[.int .i64 ep, .slice a0 L.length c0] 28)) 3 (.int .i64 x)).alloc (.cells #[.int .i64 0, .int .i64 0, .int .i64 0] 97)).alloc (.cells #[.bool false] 4)).alloc (.cells #[.int .i64 ep, .slice a0 L.length c0] 28)
    rwa [World.size_alloc] at this
  have hS3 : SpB w3 (w.heap.size + 2) ⟨0, 0, 0⟩ := by
    rw [hw3]
    have h := heap_alloc_new ((w.alloc (.cells #[.int .i64 ep, .slice a0 L.length c0] 28)).alloc (.cells #[.int .i64 x] 3)) (.cells #[.int .i64 0, .int .i64 0, .int .i64 0] 97)
    rw [World.size_alloc, World.size_alloc] at h
    refine ((((Below.refl _ _).alloc (Nat.le_refl _) _).alloc (by simp) _).block _ (by simp)).trans h
  have hF3 : BoB w3 (w.heap.size + 3) false := by
    rw [hw3]
    have h := heap_alloc_new (((w.alloc (.cells #[.int .i64 ep, .slice a0 L.length c0] 28)).alloc (.cells #[.int .i64 x] 3)).alloc (.cells #[.int .i64 0, .int .i64 0, .int .i64 0] 97)) (.cells #[.bool false] 4)
    rw [World.size_alloc, World.size_alloc, World.size_alloc] at h
    refine (((Below.refl _ _).alloc (Nat.le_refl _) _).block _ (by simp)).trans h
  have hC3 : ChB w3 (w.heap.size + 4) ep (.slice a0 L.length c0) := by
    rw [hw3]
    have h := heap_alloc_new ((((w.alloc (.cells #[.int .i64 ep, .slice a0 L.length c0] 28)).alloc (.cells #[.int .i64 x] 3)).alloc (.cells #[.int .i64 0, .int .i64 0, .int .i64 0] 97)).alloc (.cells #[.bool false] 4)) (.cells #[.int .i64 ep, .slice a0 L.length c0] 28)
    rw [World.size_alloc, World.size_alloc, World.size_alloc, World.size_alloc] at h
    exact ⟨_, h⟩
  rw [← hw3]
  clear hw3
  refine wpIn_rangeFunc_ownH hro h1 (gf := 81) (lb := #[.pointer (some ⟨w.heap.size + 4, 0, none⟩)]) rfl trivial (enters_of Try.func81 (by kernel_rfl) rfl)
    (spots_stops (n - 1) (w.heap.size + 4) w.heap.size B ep (.slice a0 L.length c0) w L hlim HB.out hB w3 (hB3.mono hB) (by omega) hC3)
    (fun h k => KeepB.trans h k) (fun W l o o' hl ho h1 h2 => ⟨belowK_b (w := w3) (by omega) W l o o' hl ho h1 h2, World.putObj_heap_other (by omega)⟩) (Below.refl _ _) (fun _ => rfl)
    (fun pre W => ((∀ z ∈ pre, z.nd ≠ x) ∧ Boxed W (w.heap.size + 1) 3 (.int .i64 x) ∧ SpB W (w.heap.size + 2) ⟨0, 0, 0⟩ ∧ BoB W (w.heap.size + 3) false ∧ w.heap.size + 5 ≤ W.heap.size) ∧ Below w.heap.size w W)
    (fun c pre W => (c = .ret ∧ ∃ p y, pre = p ++ [y] ∧ y.nd = x ∧ (∀ z ∈ p, z.nd ≠ x) ∧ SpB W (w.heap.size + 2) y ∧ BoB W (w.heap.size + 3) true) ∧ Below w.heap.size w W)
    (OwnFrom.and (fun s X Y row ⟨h1, h2, h3, h4, h5⟩ hg hr => ⟨h1, cells_own h2 hg (fun r e => (hr r e).2), cells_own h3 hg (fun r e => (hr r e).2), cells_own h4 hg (fun r e => (hr r e).2), Nat.le_trans h5 hg.size⟩) (ownFrom_below (Nat.le_refl _) (by omega)))
    (fun c => OwnFrom.and (fun s X Y row ⟨h0, p, y, h1, h2, h3, h4, h5⟩ hg hr => ⟨h0, p, y, h1, h2, h3, cells_own h4 hg (fun r e => (hr r e).2), cells_own h5 hg (fun r e => (hr r e).2)⟩) (ownFrom_below (Nat.le_refl _) (by omega)))
    ⟨⟨(fun z hz => by cases hz), hN3, hS3, hF3, by omega⟩, hB3⟩
    (fun y a' W => ∃ Bx, SpB W Bx y ∧ a' = { tmps := #[.agg #[.int .i64 ep, .slice a0 L.length c0], .int .i64 x, .pointer (some ⟨w.heap.size, 0, none⟩), .pointer (some ⟨w.heap.size + 1, 0, none⟩), .pointer (some ⟨w.heap.size + 2, 0, none⟩), .pointer (some ⟨w.heap.size + 3, 0, none⟩), .pointer (some ⟨Bx, 0, none⟩), .agg #[.int .i64 ep, .slice a0 L.length c0],
        .func (.func 81) #[] #[.pointer (some ⟨w.heap.size + 4, 0, none⟩)], y.val, undef, undef, undef, undef, undef, undef, undef], defers := [] })
    (fun y a' => fun s X Y row ⟨Bx, hbx, ha⟩ hg hr => ⟨Bx, cells_own hbx hg (fun r e => (hr r e).2), ha⟩) ?assign ?body ?done ?stop
  case assign =>
    rintro l pre y W K ⟨⟨i1, i2, i3, i4, i5⟩, hB⟩ hK
    simp only [encSp, SpotV.val]
    gi_wp2
    have hb1 : Below W.heap.size W (W.alloc (.cells #[.int .i64 y.ab, .int .i64 y.nd, .int .i64 y.bl] 97)) := (Below.refl _ W).alloc (Nat.le_refl _) _
    exact hK _ _ ((KeepsOthers.alloc _ _).from _) (.of hb1 hB.size (by omega)) ⟨⟨i1, (hb1.block _ (by omega)).trans i2, (hb1.block _ (by omega)).trans i3, (hb1.block _ (by omega)).trans i4, by simp; omega⟩, hB.trans (hb1.mono hB.size)⟩ ⟨W.heap.size, heap_alloc_new W _, rfl⟩
  case body =>
    rintro l pre ⟨p, q, r⟩ a' W hl ⟨rr, hr⟩ ⟨⟨i1, i2, i3, i4, i5⟩, hB⟩ ⟨Bx, bX, rfl⟩ hlt
    have cx := i2.cell
    obtain ⟨⟨s0, s1, s2⟩, z0, z1, z2⟩ := i3.cells
    obtain ⟨f0, g0⟩ := i4.cells
    obtain ⟨⟨x0, x1, x2⟩, _⟩ := bX.cells
    have I1 := Lib.hid i1
    have I3 := Lib.hid i3
    have I4 := Lib.hid i4
    clear hlt i1 hr
    dsimp only [SpotV.val] at x0 x1 x2 ⊢
    by_cases hq : q = x
    · subst hq
      gi_wp2
      obtain ⟨k1, k2, k3, k4⟩ := sb_stored I3.out I4.out ⟨p, q, r⟩ true
      exact ⟨k3.from _, ⟨rfl, pre, ⟨p, q, r⟩, rfl, rfl, I1.out, k1, k2⟩, k4 _ _ hB (by omega)⟩
    · have hqb : (q == x) = false := beq_eq_false_iff_ne.2 hq
      have HQ := Lib.hid hq
      clear hq
      gi_wp2
      exact ⟨KeepsFrom.refl _ _, ⟨Below.refl _ _, rfl⟩, ⟨fun z hz => by
        rcases List.mem_append.1 hz with hz | hz
        · exact I1.out z hz
        · rw [List.mem_singleton.1 hz]; exact HQ.out, i2, I3.out, I4.out, i5⟩, hB⟩
  case done =>
    rintro D ys W hD rfl ⟨⟨i1, i2, i3, i4, i5⟩, hB⟩ hK
    have cx := i2.cell
    obtain ⟨⟨s0, s1, s2⟩, z0, z1, z2⟩ := i3.cells
    obtain ⟨f0, g0⟩ := i4.cells
    have hm := find_miss rfl i1
    rw [HR.out] at hm
    simp only [Prod.mk.injEq, SpotV.mk.injEq] at hm
    obtain ⟨⟨rfl, rfl, rfl⟩, rfl⟩ := hm
    obtain ⟨k1, k2, k3, k4⟩ := sb_stored i3 i4 ⟨-1, b, -1⟩ false
    have K1 := Lib.hid k1
    have K2 := Lib.hid k2
    have K4 := Lib.hid (k4 _ _ hB (by omega))
    have hK4 := k3.same D _ hK rfl
    clear k1 k2 k3 k4
    gi_wp2
    refine ⟨by simp, .inl ⟨_, _, rfl, run_takeDeferred hK4, ?_⟩⟩
    have hr5 : SpB ((sbW W (w.heap.size + 2) ⟨-1, b, -1⟩ false).putObj D (.deferred none)) (w.heap.size + 2) ⟨-1, b, -1⟩ := cells_own K1.out (grownBy_putObj' _ D (.deferred none)) (fun r e => by cases e; exact ⟨_, hK4, rfl⟩)
    have hq5 : BoB ((sbW W (w.heap.size + 2) ⟨-1, b, -1⟩ false).putObj D (.deferred none)) (w.heap.size + 3) false := cells_own K2.out (grownBy_putObj' _ D (.deferred none)) (fun r e => by cases e; exact ⟨_, hK4, rfl⟩)
    obtain ⟨⟨e0, e1, e2⟩, _⟩ := hr5.cells
    obtain ⟨e3, _⟩ := hq5.cells
    refine ⟨.tuple #[.agg #[.int .i64 (-1), .int .i64 b, .int .i64 (-1)], .bool false], ?_, rfl, K4.out.trans (belowK_b (w := w) (Nat.le_refl _) _ D _ _ (by omega) hK4 rfl rfl)⟩
    unfold sbW at e0 e1 e2 e3
    simp [results, Try.results92, go_sem, e0, e1, e2, e3]
  case stop =>
    rintro D c pre W _ ⟨k, hk, hp⟩ ⟨⟨rfl, p, y, rfl, h2, h3, h4, h5⟩, hB⟩ hK
    have hm := find_hit hk hp h2 h3
    rw [HR.out] at hm
    simp only [Prod.mk.injEq] at hm
    obtain ⟨rfl, rfl⟩ := hm
    clear h2 h3
    gi_wp2
    refine ⟨by simp, .inl ⟨_, _, rfl, run_takeDeferred hK, ?_⟩⟩
    have hr5 : SpB (W.putObj D (.deferred none)) (w.heap.size + 2) ⟨a, b, c⟩ := cells_own h4 (grownBy_putObj' _ D (.deferred none)) (fun r e => by cases e; exact ⟨_, hK, rfl⟩)
    have hq5 : BoB (W.putObj D (.deferred none)) (w.heap.size + 3) true := cells_own h5 (grownBy_putObj' _ D (.deferred none)) (fun r e => by cases e; exact ⟨_, hK, rfl⟩)
    obtain ⟨⟨e0, e1, e2⟩, _⟩ := hr5.cells
    obtain ⟨e3, _⟩ := hq5.cells
    refine ⟨.tuple #[.agg #[.int .i64 a, .int .i64 b, .int .i64 c], .bool true], ?_, rfl, hB.trans (belowK_b (w := w) (Nat.le_refl _) _ D _ _ (by omega) hK rfl rfl)⟩
    simp [results, Try.results92, go_sem, e0, e1, e2, e3]

theorem chfind_r (ep : Int) (v : Value) (L : List Int) (hlim : L.length ≤ 1000000) (x : Int) (B : Nat) (w : World) (hI : Ints w B v L) (hB : B ≤ w.heap.size) {a b c : Int} {r : Bool} (hR : findV L x = (⟨a, b, c⟩, r)) :
    Calls Try.prog 92 #[.agg #[.int .i64 ep, v], .int .i64 x] w fun e w' => e = .returned (.tuple #[.agg #[.int .i64 a, .int .i64 b, .int .i64 c], .bool r]) ∧ Below w.heap.size w w' :=
  callsIn_wide.1 (chfind_in 3 B (Nat.le_refl _) ep v L hlim x w hI hB hR)

set_option maxHeartbeats 1000000 in
theorem chhas_r (ep : Int) (v : Value) (L : List Int) (hlim : L.length ≤ 1000000) (x : Int) (B : Nat) (w : World) (hI : Ints w B v L) (hB : B ≤ w.heap.size) {R : Bool} (hR : decide (x ∈ L) = R) :
    Calls Try.prog 83 #[.agg #[.int .i64 ep, v], .int .i64 x] w fun e w' => e = .returned (.bool R) ∧ Below w.heap.size w w' := by
  have hr : (findV L x).2 = R := by rw [← hR]; unfold findV; split <;> simp [*]
  obtain ⟨⟨⟨a, b, c⟩, r⟩, hf⟩ : ∃ f, findV L x = f := ⟨_, rfl⟩
  rw [hf] at hr
  simp only at hr
  subst hr
  have HF : Hid (∀ o, Calls Try.prog 92 #[.agg #[.int .i64 ep, v], .int .i64 x] (w.alloc o) fun e w' => e = .returned (.tuple #[.agg #[.int .i64 a, .int .i64 b, .int .i64 c], .bool r]) ∧ Below w.heap.size w w') := fun o => by
    have hb : Below w.heap.size w (w.alloc o) := (Below.refl _ w).alloc (Nat.le_refl _) o
    exact (chfind_r ep v L hlim x B _ (hI.keep (hb.mono hB)) (Nat.le_trans hB hb.size) hf).mono fun e w' ⟨he, h⟩ => ⟨he, hb.trans (h.mono hb.size)⟩
  clear hI hR hf
  go_enter Try.func83, Try.ntmps83
  go_wp2_with fail
  refine (HF.out _).mono ?_
  rintro e w1 ⟨rfl, B1⟩
  have C1 := Lib.hid B1
  clear B1
  go_wp2
  go_returns
  exact ⟨rfl, C1.out.alloc C1.out.size _⟩

end Go.Proofs.Ytaaffceanjpmbaa
