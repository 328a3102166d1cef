/-
  GRANTS AS A LAW HAS THEM, beside two chains; TOLD: what casebooklaw15.told asks holds. No condition.
-/
import Derived.Test.YthinedikgbbmoaaGrantW
import Derived.Test.YthinedikgbbmoaaAccV
import Derived.Test.YthinedikgbbmoaaItemRC
namespace Go.Proofs.Ythinedikgbbmoaa
open Go.RowKit

theorem row_lits (w : World) (L : List Int) (n : Nat) (hn : L.length = n) (hm : n ≤ maxLen) : RowI (w.alloc (.cells (intCells L).toArray 3)) (.slice (some ⟨w.heap.size, 0, none⟩) n n) L := by
  subst hn
  refine ⟨_, _, rfl, Nat.le_refl _, hm, fun e => by simp at e, fun _ => ⟨_, _, _, rfl, heap_alloc_new w _, fun j hj => ?_⟩⟩
  rw [Nat.zero_add, cell_of_row _ _ _ _ _ _ (heap_alloc_new w _), List.getElem?_toArray]
  simp [intCells, hj]
/-- All blocks stand but grants. -/
structure KGr (w w' : World) : Prop where
  size : w.heap.size ≤ w'.heap.size
  same : ∀ (b : Nat) (cs : Array Value) (T : TypeId), w.heap[b]? = some (.cells cs T (0, 0)) → T ≠ 36 → w'.heap[b]? = some (.cells cs T (0, 0))
theorem KGr.of {w w' : World} (h : Below w.heap.size w w') : KGr w w' := ⟨h.size, fun b _ _ hb _ => (h.block b (lt_of_block hb)).trans hb⟩
theorem KGr.trans {u v w : World} (h : KGr u v) (k : KGr v w) : KGr u w := ⟨Nat.le_trans h.size k.size, fun b cs T hb hT => k.same b cs T (h.same b cs T hb hT) hT⟩
theorem KGr.gr {w w' : World} {p n beg : Nat} {f : Nat → Nat} (hA : Gr w p n beg f) (ho : Only (· = p) w w') : KGr w w' := ⟨ho.size, fun b cs T hb hT => (ho.block b (lt_of_block hb) fun e => by
  subst e
  have h := hA.blk
  rw [hb] at h
  simp only [Option.some.injEq, Obj.cells.injEq] at h
  exact hT h.2.1).trans hb⟩
theorem KGr.row {w w' : World} (h : KGr w w') {v : Value} {L : List Int} (hr : RowI w v L) : RowI w' v L := by
  obtain ⟨ao, cap, rfl, h1, h2, h3, h4⟩ := hr
  refine ⟨ao, cap, rfl, h1, h2, h3, fun hl => ?_⟩
  obtain ⟨b, off, cs, rfl, hb, hc⟩ := h4 hl
  have e := h.same b cs _ hb (by decide)
  exact ⟨b, off, cs, rfl, e, fun j hj => (World.cell?_of_block (a := ⟨b, off + j, Option.none⟩) (e.trans hb.symm)).trans (hc j hj)⟩
theorem KGr.ch {w w' : World} (h : KGr w w') {b : Nat} {ep : Int} {v : Value} (hc : ChT w b ep v) : ChT w' b ep v := h.same b _ _ hc (by decide)

/-- Grants that lie above n; what lay below n is as it was in w. -/
structure GO (n : Nat) (w : World) (p m beg : Nat) (f : Nat → Nat) (u : World) : Prop where
  gr : Gr u p m beg f
  bel : Below n w u
  low : n ≤ p
  nw : n ≤ w.heap.size
section
variable {n : Nat} {w u u' : World} {p m beg : Nat} {f : Nat → Nat}
theorem GO.size (h : GO n w p m beg f u) : n ≤ u.heap.size := Nat.le_trans h.nw h.bel.size
theorem GO.on (h : GO n w p m beg f u) (hb : Below u.heap.size u u') : GO n w p m beg f u' := ⟨h.gr.on hb, h.bel.trans (hb.mono h.size), h.low, h.nw⟩
theorem GO.give (h : GO n w p m beg f u) (t k : Nat) (hk : k < m) (hb : beg ≤ t) (ht : t ≤ 1099511627776) :
    Calls Try.prog 7 #[.pointer (some ⟨p, 0, none⟩), .int .i64 t, .int .i64 k] u fun e w' => e = .returned (.bool true) ∧ Hid (GO n w p m beg (upF f k (max (f k) (t + 50))) w' ∧ KGr u w') :=
  (grgive_yes h.gr t k hk hb ht).mono fun _ _ ⟨he, hg, ho⟩ => ⟨he, ⟨hg, ho.below h.bel (fun x hx => by have := h.low; omega) h.size, h.low, h.nw⟩, KGr.gr h.gr ho⟩
theorem GO.veto (h : GO n w p m beg f u) (t : Int) (ea : Int) (va : Value) (F : List Int) (hF : F.length ≤ 1000000) (eb : Int) (vb : Value) (T : List Int) (hT : T.length ≤ 1000000) (hIa : RowI u va F) (hIb : RowI u vb T) {R : Bool} (hR : vetoV m f t F T = R) :
    Calls Try.prog 9 #[.pointer (some ⟨p, 0, none⟩), .int .i64 t, .agg #[.int .i64 ea, va], .agg #[.int .i64 eb, vb]] u fun e w' => e = .returned (.bool R) ∧ Below u.heap.size u w' :=
  grveto_r h.gr t ea va F hF eb vb T hT u.heap.size hIa.ints hIb.ints (Nat.le_refl _) hR
end
theorem go_new (n0 t : Nat) (w : World) (h0 : 0 < n0) (h5 : n0 ≤ 5) (ht : t ≤ 1099511627776) {n : Nat} {w0 : World} (hb : Below n w0 w) (hn : n ≤ w0.heap.size) :
    Calls Try.prog 6 #[.int .i64 n0, .int .i64 t] w fun e w' => ∃ p, e = .returned (.tuple #[.pointer (some ⟨p, 0, none⟩), .int .i64 0]) ∧ Hid (GO n w0 p n0 t (grOf t n0) w' ∧ Below w.heap.size w w') :=
  (grnew_yes n0 t w h0 h5 ht).mono fun _ _ ⟨he, hg, hb'⟩ => ⟨_, he, ⟨hg, hb.trans (hb'.mono (Nat.le_trans hn hb.size)), Nat.le_trans hn hb.size, hn⟩, hb'⟩

/-- Grants beside two chains. -/
structure GT (n : Nat) (w : World) (p m beg : Nat) (f : Nat → Nat) (q1 : Nat) (e1 : Int) (v1 : Value) (L1 : List Int) (q2 : Nat) (e2 : Int) (v2 : Value) (L2 : List Int) (u : World) : Prop where
  g : GO n w p m beg f u
  c1 : ChT u q1 e1 v1
  x1 : RowI u v1 L1
  c2 : ChT u q2 e2 v2
  x2 : RowI u v2 L2
section
variable {n : Nat} {w u u' : World} {p m beg : Nat} {f f' : Nat → Nat} {q1 : Nat} {e1 : Int} {v1 : Value} {L1 : List Int} {q2 : Nat} {e2 : Int} {v2 : Value} {L2 : List Int}
theorem GT.step (h : GT n w p m beg f q1 e1 v1 L1 q2 e2 v2 L2 u) (hb : Below u.heap.size u u') : GT n w p m beg f q1 e1 v1 L1 q2 e2 v2 L2 u' := ⟨h.g.on hb, h.c1.keep hb h.c1.lt, h.x1.on hb, h.c2.keep hb h.c2.lt, h.x2.on hb⟩
theorem GT.turn (h : GT n w p m beg f q1 e1 v1 L1 q2 e2 v2 L2 u) (hg : GO n w p m beg f' u') (hk : KGr u u') : GT n w p m beg f' q1 e1 v1 L1 q2 e2 v2 L2 u' := ⟨hg, hk.ch h.c1, hk.row h.x1, hk.ch h.c2, hk.row h.x2⟩
theorem GT.give (h : GT n w p m beg f q1 e1 v1 L1 q2 e2 v2 L2 u) (t k : Nat) (hk : k < m) (hb : beg ≤ t) (ht : t ≤ 1099511627776) (hf : upF f k (max (f k) (t + 50)) = f') :
    Calls Try.prog 7 #[.pointer (some ⟨p, 0, none⟩), .int .i64 t, .int .i64 k] u fun e w' => e = .returned (.bool true) ∧ Hid (GT n w p m beg f' q1 e1 v1 L1 q2 e2 v2 L2 w') :=
  (h.g.give t k hk hb ht).mono fun _ _ ⟨he, hh⟩ => ⟨he, by rw [hf] at hh; exact h.turn hh.out.1 hh.out.2⟩
theorem GT.cells (h : GT n w p m beg f q1 e1 v1 L1 q2 e2 v2 L2 u) : (u.cell? ⟨q1, 0, none⟩ = some (.int .i64 e1) ∧ u.cell? ⟨q1, 1, none⟩ = some v1) ∧ u.cell? ⟨q2, 0, none⟩ = some (.int .i64 e2) ∧ u.cell? ⟨q2, 1, none⟩ = some v2 :=
  ⟨⟨h.c1.cells.1, h.c1.cells.2.1⟩, h.c2.cells.1, h.c2.cells.2.1⟩
end

def f15 : Nat → Nat := upF (grOf 0 3) 2 (max (grOf 0 3 2) (60 + 50))
theorem f15_2 : f15 2 = 110 := rfl

set_option maxHeartbeats 8000000 in
set_option maxRecDepth 100000 in
theorem told15_any (w : World) : Calls Try.prog 8 #[] w fun e w' => e = .returned (.bool true) ∧ Below w.heap.size w w' := by
  obtain ⟨n, hn⟩ : ∃ n, n = w.heap.size := ⟨_, rfl⟩
  rw [← hn]
  have HN : Hid (Calls Try.prog 6 #[.int .i64 3, .int .i64 0] w fun e w' => ∃ p, e = .returned (.tuple #[.pointer (some ⟨p, 0, none⟩), .int .i64 0]) ∧ Hid (GO n w p 3 0 (grOf 0 3) w' ∧ Below w.heap.size w w')) :=
    go_new 3 0 w (by decide) (by decide) (by decide) (Below.refl _ _) (Nat.le_of_eq hn)
  have HN0 : Hid (∀ u, Calls Try.prog 6 #[.int .i64 0, .int .i64 0] u fun e w' => e = .returned (.tuple #[.pointer none, .int .i64 1]) ∧ u = w') := fun u => grnew_no 0 0 u (by omega)
  have HNN := Lib.hid hn
  clear hn
  go_enter Try.func8, Try.ntmps8
  go_wp2_with fail
  refine HN.out.mono ?_
  rintro e w1 ⟨p, rfl, H1⟩
  clear HN
  go_wp2_with fail
  refine (HN0.out _).mono ?_
  rintro e w2 ⟨rfl, rfl⟩
  obtain ⟨y2, hy2⟩ : ∃ y, y = w1.alloc (.cells #[.int .i64 0, .int .i64 1, .int .i64 2] 3) := ⟨_, rfl⟩
  obtain ⟨y3, hy3⟩ : ∃ y, y = y2.alloc (.cells #[.int .i64 0, .int .i64 1] 3) := ⟨_, rfl⟩
  obtain ⟨y4, hy4⟩ : ∃ y, y = y3.alloc (.cells #[.int .i64 1, .slice (some ⟨w1.heap.size, 0, none⟩) 3 3] 29) := ⟨_, rfl⟩
  obtain ⟨y5, hy5⟩ : ∃ y, y = y4.alloc (.cells #[.int .i64 2, .slice (some ⟨y2.heap.size, 0, none⟩) 2 2] 29) := ⟨_, rfl⟩
  have e2 : Below w1.heap.size w1 y2 := by rw [hy2]; exact (Below.refl _ _).alloc (Nat.le_refl _) _
  have e3 : Below y2.heap.size y2 y3 := by rw [hy3]; exact (Below.refl _ _).alloc (Nat.le_refl _) _
  have e4 : Below y3.heap.size y3 y4 := by rw [hy4]; exact (Below.refl _ _).alloc (Nat.le_refl _) _
  have e5 : Below y4.heap.size y4 y5 := by rw [hy5]; exact (Below.refl _ _).alloc (Nat.le_refl _) _
  have T0 : GT n w p 3 0 (grOf 0 3) y3.heap.size 1 (.slice (some ⟨w1.heap.size, 0, none⟩) 3 3) [0, 1, 2] y4.heap.size 2 (.slice (some ⟨y2.heap.size, 0, none⟩) 2 2) [0, 1] y5 := by
    have r1 := row_lits w1 [0, 1, 2] 3 rfl (by decide)
    have r2 := row_lits y2 [0, 1] 2 rfl (by decide)
    have k1 := ChT.fresh y3 1 (.slice (some ⟨w1.heap.size, 0, none⟩) 3 3)
    have k2 := ChT.fresh y4 2 (.slice (some ⟨y2.heap.size, 0, none⟩) 2 2)
    rw [← hy4] at k1
    rw [← hy5] at k2
    rw [show (intCells [0, 1, 2]).toArray = #[.int .i64 0, .int .i64 1, .int .i64 2] from rfl, ← hy2] at r1
    rw [show (intCells [0, 1]).toArray = #[.int .i64 0, .int .i64 1] from rfl, ← hy3] at r2
    exact ⟨(((H1.out.1.on e2).on e3).on e4).on e5, k1.keep e5 k1.lt, ((r1.on e3).on e4).on e5, k2, (r2.on e4).on e5⟩
  have s2 : y2.heap.size = w1.heap.size + 1 := by rw [hy2]; simp
  have s3 : y3.heap.size = w1.heap.size + 1 + 1 := by rw [hy3]; simp [s2]
  have s4 : y4.heap.size = w1.heap.size + 1 + 1 + 1 := by rw [hy4]; simp [s3]
  rw [s2, s3, s4] at T0
  rw [s2] at hy5
  rw [hy4, hy3, hy2] at hy5
  have HY := Lib.hid hy5
  have HT0 := Lib.hid T0
  clear hy2 hy3 hy4 hy5 e2 e3 e4 e5 s2 s3 s4 T0 H1
  have HV1 : Hid (∀ u q1 v1 q2 v2, GT n w p 3 0 (grOf 0 3) q1 1 v1 [0, 1, 2] q2 2 v2 [0, 1] u → Calls Try.prog 9 #[.pointer (some ⟨p, 0, none⟩), .int .i64 49, .agg #[.int .i64 1, v1], .agg #[.int .i64 2, v2]] u fun e w' => e = .returned (.bool true) ∧ Below u.heap.size u w') :=
    fun u q1 v1 q2 v2 hu => hu.g.veto 49 1 v1 [0, 1, 2] (by decide) 2 v2 [0, 1] (by decide) hu.x1 hu.x2 (by decide)
  have HV2 : Hid (∀ u q1 v1 q2 v2, GT n w p 3 0 (grOf 0 3) q1 1 v1 [0, 1, 2] q2 2 v2 [0, 1] u → Calls Try.prog 9 #[.pointer (some ⟨p, 0, none⟩), .int .i64 50, .agg #[.int .i64 1, v1], .agg #[.int .i64 2, v2]] u fun e w' => e = .returned (.bool false) ∧ Below u.heap.size u w') :=
    fun u q1 v1 q2 v2 hu => hu.g.veto 50 1 v1 [0, 1, 2] (by decide) 2 v2 [0, 1] (by decide) hu.x1 hu.x2 (by decide)
  have HG : Hid (∀ u q1 v1 q2 v2, GT n w p 3 0 (grOf 0 3) q1 1 v1 [0, 1, 2] q2 2 v2 [0, 1] u → Calls Try.prog 7 #[.pointer (some ⟨p, 0, none⟩), .int .i64 60, .int .i64 2] u fun e w' => e = .returned (.bool true) ∧ Hid (GT n w p 3 0 f15 q1 1 v1 [0, 1, 2] q2 2 v2 [0, 1] w')) :=
    fun u q1 v1 q2 v2 hu => hu.give 60 2 (by decide) (by decide) (by decide) rfl
  have HU : Hid (∀ u q1 v1 q2 v2, GT n w p 3 0 f15 q1 1 v1 [0, 1, 2] q2 2 v2 [0, 1] u → Calls Try.prog 10 #[.pointer (some ⟨p, 0, none⟩), .int .i64 2] u fun e w' => e = .returned (.int .i64 110) ∧ u = w') :=
    fun u q1 v1 q2 v2 hu => gruntil_yes hu.g.gr 2 (by decide)
  have HV3 : Hid (∀ u q1 v1 q2 v2, GT n w p 3 0 f15 q1 1 v1 [0, 1, 2] q2 2 v2 [0, 1] u → Calls Try.prog 9 #[.pointer (some ⟨p, 0, none⟩), .int .i64 109, .agg #[.int .i64 1, v1], .agg #[.int .i64 2, v2]] u fun e w' => e = .returned (.bool true) ∧ Hid (GT n w p 3 0 f15 q1 1 v1 [0, 1, 2] q2 2 v2 [0, 1] w')) :=
    fun u q1 v1 q2 v2 hu => (hu.g.veto 109 1 v1 [0, 1, 2] (by decide) 2 v2 [0, 1] (by decide) hu.x1 hu.x2 (by decide)).mono fun _ _ ⟨he, hb⟩ => ⟨he, hu.step hb⟩
  have HV4 : Hid (∀ u q1 v1 q2 v2, GT n w p 3 0 f15 q1 1 v1 [0, 1, 2] q2 2 v2 [0, 1] u → Calls Try.prog 9 #[.pointer (some ⟨p, 0, none⟩), .int .i64 110, .agg #[.int .i64 1, v1], .agg #[.int .i64 2, v2]] u fun e w' => e = .returned (.bool false) ∧ Hid (GT n w p 3 0 f15 q1 1 v1 [0, 1, 2] q2 2 v2 [0, 1] w')) :=
    fun u q1 v1 q2 v2 hu => (hu.g.veto 110 1 v1 [0, 1, 2] (by decide) 2 v2 [0, 1] (by decide) hu.x1 hu.x2 (by decide)).mono fun _ _ ⟨he, hb⟩ => ⟨he, hu.step hb⟩
  have HV5 : Hid (∀ u q1 v1 q2 v2, GT n w p 3 0 f15 q1 1 v1 [0, 1, 2] q2 2 v2 [0, 1] u → Calls Try.prog 9 #[.pointer (some ⟨p, 0, none⟩), .int .i64 0, .agg #[.int .i64 2, v2], .agg #[.int .i64 2, v2]] u fun e w' => e = .returned (.bool false) ∧ Hid (GT n w p 3 0 f15 q1 1 v1 [0, 1, 2] q2 2 v2 [0, 1] w')) :=
    fun u q1 v1 q2 v2 hu => (hu.g.veto 0 2 v2 [0, 1] (by decide) 2 v2 [0, 1] (by decide) hu.x2 hu.x2 (by decide)).mono fun _ _ ⟨he, hb⟩ => ⟨he, hu.step hb⟩
  go_wp2_with fail
  rw [← HY.out]
  obtain ⟨q, hq⟩ : ∃ q, q = w1.heap.size := ⟨_, rfl⟩
  rw [← hq] at HT0 ⊢
  clear hq HY
  have FX : Hid (∀ u, GT n w p 3 0 (grOf 0 3) (q + 1 + 1) 1 (.slice (some ⟨q, 0, none⟩) 3 3) [0, 1, 2] (q + 1 + 1 + 1) 2 (.slice (some ⟨q + 1, 0, none⟩) 2 2) [0, 1] u → _) := fun u hu => hu.cells
  have P0 := HT0.out.step ((Below.refl _ y5).drew)
  clear HT0
  refine region_quiet (fun v => GT n w p 3 0 (grOf 0 3) (q + 1 + 1) 1 (.slice (some ⟨q, 0, none⟩) 3 3) [0, 1, 2] (q + 1 + 1 + 1) 2 (.slice (some ⟨q + 1, 0, none⟩) 2 2) [0, 1] v) (by kernel_rfl) (by kernel_rfl) P0 ?_
  repeat (first
    | go_big_quiet_skip
    | (go_big_quiet_want
       (first
        | (refine quiet_run (v := ?_) ?_ ?_; rotate_left; (intro u hu; obtain ⟨⟨a0, a1⟩, b0, b1⟩ := FX.out u hu; go_simp <;> with_reducible rfl); simp only [Act.put, List.setIfInBounds_toArray, List.set_cons_zero, List.set_cons_succ]; go_big_quiet_on)
        | (refine quiet_enter 9 _ ?_ (fun u hu => (HV1.out u _ _ _ _ hu).mono fun e u' ⟨he, hb⟩ => ⟨he, hu.step hb⟩) ?_; (focus (intro u; first | (go_simp; done) | (go_simp; with_reducible rfl))); simp only [Act.put, List.setIfInBounds_toArray, List.set_cons_zero, List.set_cons_succ]; go_big_quiet_on)
        | (refine quiet_enter 9 _ ?_ (fun u hu => (HV2.out u _ _ _ _ hu).mono fun e u' ⟨he, hb⟩ => ⟨he, hu.step hb⟩) ?_; (focus (intro u; first | (go_simp; done) | (go_simp; with_reducible rfl))); simp only [Act.put, List.setIfInBounds_toArray, List.set_cons_zero, List.set_cons_succ]; go_big_quiet_on))))
  refine wpQuiet_nil ?_
  intro w4 h4
  have T4 := Lib.hid h4
  clear h4 P0 FX HV1 HV2
  go_wp2_with fail
  refine (HG.out _ _ _ _ _ T4.out).mono ?_
  rintro e w5 ⟨rfl, T5⟩
  clear T4 HG
  go_wp2_with fail
  refine (HU.out _ _ _ _ _ T5.out).mono ?_
  rintro e w6 ⟨rfl, rfl⟩
  obtain ⟨⟨a0, a1⟩, b0, b1⟩ := T5.out.cells
  go_wp2_with fail
  refine (HV3.out _ _ _ _ _ T5.out).mono ?_
  rintro e w7 ⟨rfl, T7⟩
  clear a0 a1 b0 b1 T5
  obtain ⟨⟨a0, a1⟩, b0, b1⟩ := T7.out.cells
  go_wp2_with fail
  refine (HV4.out _ _ _ _ _ T7.out).mono ?_
  rintro e w8 ⟨rfl, T8⟩
  clear a0 a1 b0 b1 T7
  obtain ⟨⟨a0, a1⟩, b0, b1⟩ := T8.out.cells
  go_wp2_with fail
  refine (HV5.out _ _ _ _ _ T8.out).mono ?_
  rintro e w9 ⟨rfl, T9⟩
  clear a0 a1 b0 b1 T8
  go_wp2
  go_returns
  exact ⟨by first | rfl | trivial, T9.out.g.bel⟩
end Go.Proofs.Ythinedikgbbmoaa
