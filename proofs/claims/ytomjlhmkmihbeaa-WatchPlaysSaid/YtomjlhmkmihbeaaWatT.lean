/-
  A WATCH AS A LAW HAS IT; TOLD: what casebooklaw17.told asks holds. No condition.
-/
import Derived.Test.YtomjlhmkmihbeaaWatG
import Derived.Test.YtomjlhmkmihbeaaAccV
namespace Go.Proofs.Ytomjlhmkmihbeaa
open Go.RowKit

/-- All blocks stand but watches. -/
structure KWt (w w' : World) : Prop where
  size : w.heap.size ≤ w'.heap.size
  same : ∀ (b : Nat) (cs : Array Value) (T : TypeId), w.heap[b]? = some (.cells cs T (0, 0)) → T ≠ 85 → w'.heap[b]? = some (.cells cs T (0, 0))
theorem KWt.of {w w' : World} (h : Below w.heap.size w w') : KWt w w' := ⟨h.size, fun b _ _ hb _ => (h.block b (lt_of_block hb)).trans hb⟩
theorem KWt.wt {w w' : World} {p n s : Nat} {f : Nat → Nat} (hA : Wt w p n s f) (ho : Only (· = p) w w') : KWt w w' := ⟨ho.size, fun b cs T hb hT => (ho.block b (lt_of_block hb) fun e => by
  subst e
  have h := hA.blk
  rw [hb] at h
  simp only [Option.some.injEq, Obj.cells.injEq] at h
  exact hT h.2.1).trans hb⟩
theorem KWt.row {w w' : World} (h : KWt w w') {v : Value} {L : List Int} (hr : RowI w v L) : RowI w' v L := by
  obtain ⟨ao, cap, rfl, h1, h2, h3, h4⟩ := hr
  refine ⟨ao, cap, rfl, h1, h2, h3, fun hl => ?_⟩
  obtain ⟨b, off, cs, rfl, hb, hc⟩ := h4 hl
  have e := h.same b cs _ hb (by decide)
  exact ⟨b, off, cs, rfl, e, fun j hj => (World.cell?_of_block (a := ⟨b, off + j, Option.none⟩) (e.trans hb.symm)).trans (hc j hj)⟩

/-- A watch that lies above n; what lay below n is as it was in w. -/
structure WO (n : Nat) (w : World) (p m s : Nat) (f : Nat → Nat) (u : World) : Prop where
  wt : Wt u p m s f
  bel : Below n w u
  low : n ≤ p
  nw : n ≤ w.heap.size
section
variable {n : Nat} {w u u' : World} {p m s : Nat} {f : Nat → Nat}
theorem WO.size (h : WO n w p m s f u) : n ≤ u.heap.size := Nat.le_trans h.nw h.bel.size
theorem WO.on (h : WO n w p m s f u) (hb : Below u.heap.size u u') : WO n w p m s f u' := ⟨h.wt.on hb, h.bel.trans (hb.mono h.size), h.low, h.nw⟩
theorem WO.hear (h : WO n w p m s f u) (t k : Int) :
    Calls Try.prog 28 #[.pointer (some ⟨p, 0, none⟩), .int .i64 t, .int .i64 k] u fun e w' => e = .returned (.tuple #[]) ∧ Hid (WO n w p m s (hearV m f t k) w' ∧ KWt u w') :=
  (wtheard_r h.wt t k).mono fun _ _ ⟨he, hg, ho⟩ => ⟨he, ⟨hg, ho.below h.bel (fun x hx => by have := h.low; omega) h.size, h.low, h.nw⟩, KWt.wt h.wt ho⟩
theorem WO.isThere (h : WO n w p m s f u) (t k : Int) (ht : Top t) {R : Bool} (hR : isT m s f t k = R) :
    Calls Try.prog 33 #[.pointer (some ⟨p, 0, none⟩), .int .i64 t, .int .i64 k] u fun e w' => e = .returned (.bool R) ∧ u = w' :=
  wtthere_r h.wt t k ht hR
theorem WO.gone (h : WO n w p m s f u) (t : Int) (ht : Top t) {L : List Int} (hL : goneL m s f t = L) :
    Calls Try.prog 31 #[.pointer (some ⟨p, 0, none⟩), .int .i64 t] u fun e w' => ∃ a c, e = .returned (.slice a L.length c) ∧ Hid (RowI w' (.slice a L.length c) L ∧ Below u.heap.size u w') :=
  (wtgone_r h.wt t ht).mono fun _ _ ⟨v, he, hr, hb⟩ => by
    rw [hL] at hr
    have hr' := RowI.own hr
    obtain ⟨a, c, rfl⟩ := hr'.shape
    exact ⟨a, c, he, hr', hb⟩
end
theorem wo_new (n0 s t : Nat) (w : World) (h0 : 0 < n0) (h5 : n0 ≤ 5) (hs : s < n0) (ht : t ≤ 1099511627776) {n : Nat} {w0 : World} (hb : Below n w0 w) (hn : n ≤ w0.heap.size) :
    Calls Try.prog 25 #[.int .i64 n0, .int .i64 s, .int .i64 t] w fun e w' => ∃ p, e = .returned (.tuple #[.pointer (some ⟨p, 0, none⟩), .int .i64 0]) ∧ Hid (WO n w0 p n0 s (wtOf t n0) w' ∧ Below w.heap.size w w') :=
  (wtnew_yes n0 s t w h0 h5 hs ht).mono fun _ _ ⟨he, hg, hb'⟩ => ⟨_, he, ⟨hg, hb.trans (hb'.mono (Nat.le_trans hn hb.size)), Nat.le_trans hn hb.size, hn⟩, hb'⟩

theorem top_lit {t : Int} (h : t ≤ 1000) : Top t := ⟨by omega⟩
theorem top_big {t : Int} (h : t ≤ 1000000000) : Top t := ⟨by omega⟩
def f17 : Nat → Nat := hearV 2 (wtOf 5 2) 20 1

set_option maxHeartbeats 4000000 in
set_option maxRecDepth 100000 in
theorem told17_any (w : World) : Calls Try.prog 27 #[] w fun e w' => e = .returned (.bool true) ∧ Below w.heap.size w w' := by
  obtain ⟨n, hn⟩ : ∃ n, n = w.heap.size := ⟨_, rfl⟩
  rw [← hn]
  have HN : Hid (Calls Try.prog 25 #[.int .i64 2, .int .i64 0, .int .i64 5] w fun e w' => ∃ p, e = .returned (.tuple #[.pointer (some ⟨p, 0, none⟩), .int .i64 0]) ∧ Hid (WO n w p 2 0 (wtOf 5 2) w' ∧ Below w.heap.size w w')) :=
    wo_new 2 0 5 w (by decide) (by decide) (by decide) (by decide) (Below.refl _ _) (Nat.le_of_eq hn)
  have HN0 : Hid (∀ u, Calls Try.prog 25 #[.int .i64 2, .int .i64 2, .int .i64 5] u fun e w' => e = .returned (.tuple #[.pointer none, .int .i64 1]) ∧ u = w') := fun u => wtnew_no 2 2 5 u (by decide)
  have HA : Hid (∀ u p, WO n w p 2 0 (wtOf 5 2) u → Calls Try.prog 31 #[.pointer (some ⟨p, 0, none⟩), .int .i64 16] u fun e w' => ∃ a c, e = .returned (.slice a 0 c) ∧ WO n w p 2 0 (wtOf 5 2) w') :=
    fun u p hu => (hu.gone 16 (top_lit (by decide)) (L := []) (by decide)).mono fun _ _ ⟨a, c, he, h⟩ => ⟨a, c, he, hu.on h.out.2⟩
  have HB : Hid (∀ u p, WO n w p 2 0 (wtOf 5 2) u → Calls Try.prog 31 #[.pointer (some ⟨p, 0, none⟩), .int .i64 17] u fun e w' => ∃ a c, e = .returned (.slice a 1 c) ∧ Hid (WO n w p 2 0 (wtOf 5 2) w' ∧ RowI w' (.slice a 1 c) [1])) :=
    fun u p hu => (hu.gone 17 (top_lit (by decide)) (L := [1]) (by decide)).mono fun _ _ ⟨a, c, he, h⟩ => ⟨a, c, he, hu.on h.out.2, h.out.1⟩
  have HH : Hid (∀ u p a c, WO n w p 2 0 (wtOf 5 2) u ∧ RowI u (.slice a 1 c) [1] → Calls Try.prog 28 #[.pointer (some ⟨p, 0, none⟩), .int .i64 20, .int .i64 1] u fun e w' => e = .returned (.tuple #[]) ∧ Hid (WO n w p 2 0 f17 w' ∧ RowI w' (.slice a 1 c) [1])) :=
    fun u p a c hu => (hu.1.hear 20 1).mono fun _ _ ⟨he, h⟩ => ⟨he, h.out.1, h.out.2.row hu.2⟩
  have H1 : Hid (∀ u p, WO n w p 2 0 f17 u → Calls Try.prog 33 #[.pointer (some ⟨p, 0, none⟩), .int .i64 31, .int .i64 1] u fun e w' => e = .returned (.bool true) ∧ u = w') := fun u p hu => hu.isThere 31 1 (top_lit (by decide)) (by decide)
  have H2 : Hid (∀ u p, WO n w p 2 0 f17 u → Calls Try.prog 33 #[.pointer (some ⟨p, 0, none⟩), .int .i64 32, .int .i64 1] u fun e w' => e = .returned (.bool false) ∧ u = w') := fun u p hu => hu.isThere 32 1 (top_lit (by decide)) (by decide)
  have H3 : Hid (∀ u p, WO n w p 2 0 f17 u → Calls Try.prog 33 #[.pointer (some ⟨p, 0, none⟩), .int .i64 99, .int .i64 0] u fun e w' => e = .returned (.bool true) ∧ u = w') := fun u p hu => hu.isThere 99 0 (top_lit (by decide)) (by decide)
  clear hn
  go_enter Try.func27, Try.ntmps27
  go_wp2_with fail
  refine HN.out.mono ?_
  rintro e w1 ⟨p, rfl, H⟩
  clear HN
  have T1 := Lib.hid H.out.1
  clear H
  go_wp2_with fail
  refine (HN0.out _).mono ?_
  rintro e w2 ⟨rfl, rfl⟩
  go_wp2_with fail
  refine (HA.out _ _ T1.out).mono ?_
  rintro e w3 ⟨a3, c3, rfl, H⟩
  have T3 := Lib.hid H
  clear H T1
  go_wp2_with fail
  refine (HB.out _ _ T3.out).mono ?_
  rintro e w4 ⟨a4, c4, rfl, T4⟩
  clear T3
  go_wp2_with fail
  refine (HH.out _ _ _ _ T4.out).mono ?_
  rintro e w5 ⟨rfl, T5⟩
  clear T4
  obtain ⟨b, off, rfl, hbB, hcell⟩ := (ints_cell T5.out.2.ints).2 0 (by decide)
  rw [Nat.add_zero] at hcell
  have hc : w5.cell? ⟨b, off, none⟩ = some (.int .i64 1) := hcell
  clear hbB hcell
  go_wp2_with fail
  refine (H1.out _ _ T5.out.1).mono ?_
  rintro e w6 ⟨rfl, rfl⟩
  go_wp2_with fail
  refine (H2.out _ _ T5.out.1).mono ?_
  rintro e w7 ⟨rfl, rfl⟩
  go_wp2_with fail
  refine (H3.out _ _ T5.out.1).mono ?_
  rintro e w8 ⟨rfl, rfl⟩
  go_wp2
  go_returns
  exact ⟨by first | rfl | trivial, T5.out.1.bel⟩
end Go.Proofs.Ytomjlhmkmihbeaa
