/-
  A LEASE AS A LAW HAS IT; TOLD: what casebooklaw16.told asks holds. No condition.
-/
import Derived.Test.YtomjlhmkmihbeaaHdL
namespace Go.Proofs.Ytomjlhmkmihbeaa
open Go.RowKit

/-- All blocks stand but leases. -/
structure KHd (w w' : World) : Prop where
  size : w.heap.size ≤ w'.heap.size
  same : ∀ (b : Nat) (cs : Array Value) (T : TypeId), w.heap[b]? = some (.cells cs T (0, 0)) → T ≠ 66 → w'.heap[b]? = some (.cells cs T (0, 0))
theorem KHd.of {w w' : World} (h : Below w.heap.size w w') : KHd w w' := ⟨h.size, fun b _ _ hb _ => (h.block b (lt_of_block hb)).trans hb⟩
theorem KHd.hd {w w' : World} {p n r : Nat} {qs : Nat → QV} (hA : Hd w p n r qs) (ho : Only (· = p) w w') : KHd w w' := ⟨ho.size, fun b cs T hb hT => (ho.block b (lt_of_block hb) fun e => by
  subst e
  have h := hA.blk
  rw [hb] at h
  simp only [Option.some.injEq, Obj.cells.injEq] at h
  exact hT h.2.1).trans hb⟩

/-- A lease that lies above n; what lay below n is as it was in w. -/
structure LO (n : Nat) (w : World) (p m r : Nat) (qs : Nat → QV) (u : World) : Prop where
  hd : Hd u p m r qs
  as_ : ∀ j, 0 ≤ (qs j).asked
  bel : Below n w u
  low : n ≤ p
  nw : n ≤ w.heap.size
theorem asked_up {qs : Nat → QV} (h : ∀ j, 0 ≤ (qs j).asked) {q : QV} (hq : 0 ≤ q.asked) (k : Nat) : ∀ j, 0 ≤ (upQ qs k q j).asked := fun j => by
  unfold upQ
  split
  · exact hq
  · exact h j
theorem asked_lost {qs : Nat → QV} (h : ∀ j, 0 ≤ (qs j).asked) (k : Nat) : ∀ j, 0 ≤ (lostQ qs k j).asked := fun j => by
  unfold lostQ
  split
  · exact h j
  · exact h j
section
variable {n : Nat} {w u u' : World} {p m r : Nat} {qs : Nat → QV}
theorem LO.size (h : LO n w p m r qs u) : n ≤ u.heap.size := Nat.le_trans h.nw h.bel.size
theorem LO.on (h : LO n w p m r qs u) (hb : Below u.heap.size u u') : LO n w p m r qs u' := ⟨h.hd.on hb, h.as_, h.bel.trans (hb.mono h.size), h.low, h.nw⟩
theorem LO.ask (h : LO n w p m r qs u) (hr : r ≤ 1000000) (t ep : Int) (hB : askB r qs t ep = true) {qs' : Nat → QV} (hq : upQ qs (r % 4) (.new t ep) = qs') :
    Calls Try.prog 13 #[.pointer (some ⟨p, 0, none⟩), .int .i64 t, .int .i64 ep] u fun e w' => e = .returned (.int .i64 ((r : Int) + 1)) ∧ Hid (LO n w p m (r + 1) qs' w' ∧ KHd u w') :=
  (hdask_yes h.hd hr t ep hB).mono fun _ _ ⟨he, hg, ho⟩ => ⟨he, ⟨hq ▸ hg, hq ▸ asked_up h.as_ (of_decide_eq_true hB).1.1 _, ho.below h.bel (fun x hx => by have := h.low; omega) h.size, h.low, h.nw⟩, KHd.hd h.hd ho⟩
theorem LO.ask_no (h : LO n w p m r qs u) (hr : r ≤ 1000000) (t ep : Int) (hB : askB r qs t ep = false) :
    Calls Try.prog 13 #[.pointer (some ⟨p, 0, none⟩), .int .i64 t, .int .i64 ep] u fun e w' => e = .returned (.int .i64 (-1)) ∧ u = w' := hdask_no h.hd hr t ep hB
theorem LO.tell (h : LO n w p m r qs u) (hr : r ≤ 1000000) (id k : Int) (hB : tellB m r qs id k = true) {qs' : Nat → QV} (hq : upQ qs ((id - 1) % 4).toNat ((qs ((id - 1) % 4).toNat).tell k.toNat) = qs') :
    Calls Try.prog 14 #[.pointer (some ⟨p, 0, none⟩), .int .i64 id, .int .i64 k] u fun e w' => e = .returned (.bool true) ∧ Hid (LO n w p m r qs' w' ∧ KHd u w') :=
  (hdtold_yes h.hd hr id k hB).mono fun _ _ ⟨he, hg, ho⟩ => ⟨he, ⟨hq ▸ hg, hq ▸ asked_up h.as_ (q := (qs _).tell _) (h.as_ _) _, ho.below h.bel (fun x hx => by have := h.low; omega) h.size, h.low, h.nw⟩, KHd.hd h.hd ho⟩
theorem LO.tell_no (h : LO n w p m r qs u) (hr : r ≤ 1000000) (id k : Int) (hB : tellB m r qs id k = false) :
    Calls Try.prog 14 #[.pointer (some ⟨p, 0, none⟩), .int .i64 id, .int .i64 k] u fun e w' => e = .returned (.bool false) ∧ Hid (LO n w p m r qs w' ∧ Below u.heap.size u w') :=
  (hdtold_no h.hd hr id k hB).mono fun _ _ ⟨he, hb⟩ => ⟨he, h.on hb, hb⟩
theorem LO.valid (h : LO n w p m r qs u) (hr : r ≤ 1000000) (t ep : Int) (ht : Top t) {R : Bool} (hR : validB m r qs t ep = R) :
    Calls Try.prog 16 #[.pointer (some ⟨p, 0, none⟩), .int .i64 t, .int .i64 ep] u fun e w' => e = .returned (.bool R) ∧ Hid (LO n w p m r qs w' ∧ Below u.heap.size u w') :=
  (hdvalid_r h.hd hr h.as_ t ep ht hR).mono fun _ _ ⟨he, hb⟩ => ⟨he, h.on hb, hb⟩
theorem LO.lose (h : LO n w p m r qs u) (hr : r ≤ 1000000) {qs' : Nat → QV} (hq : lostQ qs (min r 4) = qs') :
    Calls Try.prog 20 #[.pointer (some ⟨p, 0, none⟩)] u fun e w' => e = .returned (.tuple #[]) ∧ Hid (LO n w p m r qs' w' ∧ KHd u w') :=
  (hdlost_r h.hd hr).mono fun _ _ ⟨he, hg, ho⟩ => ⟨he, ⟨hq ▸ hg, hq ▸ asked_lost h.as_ _, ho.below h.bel (fun x hx => by have := h.low; omega) h.size, h.low, h.nw⟩, KHd.hd h.hd ho⟩
end
def noQ : Nat → QV := fun _ => .zero
theorem lo_new (n0 : Nat) (w : World) (h0 : 0 < n0) (h5 : n0 ≤ 5) {n : Nat} {w0 : World} (hb : Below n w0 w) (hn : n ≤ w0.heap.size) :
    Calls Try.prog 12 #[.int .i64 n0] w fun e w' => ∃ p, e = .returned (.tuple #[.pointer (some ⟨p, 0, none⟩), .int .i64 0]) ∧ Hid (LO n w0 p n0 0 noQ w' ∧ Below w.heap.size w w') :=
  (hdnew_yes n0 w h0 h5).mono fun _ _ ⟨he, hg, hb'⟩ => ⟨_, he, ⟨hg, (fun _ => Int.le_refl 0), hb.trans (hb'.mono (Nat.le_trans hn hb.size)), Nat.le_trans hn hb.size, hn⟩, hb'⟩

theorem toplit {t : Int} (h : t ≤ 1000000000) : Top t := ⟨by omega⟩
def q16a : Nat → QV := upQ noQ 0 (.new 10 1)
def q16b : Nat → QV := upQ q16a 0 ((q16a 0).tell 0)
def q16c : Nat → QV := upQ q16b 0 ((q16b 0).tell 2)

set_option maxHeartbeats 4000000 in
set_option maxRecDepth 100000 in
theorem told16_any (w : World) : Calls Try.prog 15 #[] w fun e w' => e = .returned (.bool true) ∧ Below w.heap.size w w' := by
  obtain ⟨n, hn⟩ : ∃ n, n = w.heap.size := ⟨_, rfl⟩
  rw [← hn]
  have HN : Hid (Calls Try.prog 12 #[.int .i64 3] w fun e w' => ∃ p, e = .returned (.tuple #[.pointer (some ⟨p, 0, none⟩), .int .i64 0]) ∧ Hid (LO n w p 3 0 noQ w' ∧ Below w.heap.size w w')) :=
    lo_new 3 w (by decide) (by decide) (Below.refl _ _) (Nat.le_of_eq hn)
  have HN0 : Hid (∀ u, Calls Try.prog 12 #[.int .i64 0] u fun e w' => e = .returned (.tuple #[.pointer none, .int .i64 1]) ∧ u = w') := fun u => hdnew_no 0 u (by decide)
  have HA : Hid (∀ u p, LO n w p 3 0 noQ u → Calls Try.prog 13 #[.pointer (some ⟨p, 0, none⟩), .int .i64 10, .int .i64 1] u fun e w' => e = .returned (.int .i64 1) ∧ Hid (LO n w p 3 1 q16a w' ∧ KHd u w')) :=
    fun u p hu => hu.ask (by decide) 10 1 (by decide) rfl
  have HT1 : Hid (∀ u p, LO n w p 3 1 q16a u → Calls Try.prog 14 #[.pointer (some ⟨p, 0, none⟩), .int .i64 1, .int .i64 0] u fun e w' => e = .returned (.bool true) ∧ Hid (LO n w p 3 1 q16b w' ∧ KHd u w')) :=
    fun u p hu => hu.tell (by decide) 1 0 (by decide) rfl
  have HV1 : Hid (∀ u p, LO n w p 3 1 q16b u → Calls Try.prog 16 #[.pointer (some ⟨p, 0, none⟩), .int .i64 10, .int .i64 1] u fun e w' => e = .returned (.bool false) ∧ Hid (LO n w p 3 1 q16b w' ∧ Below u.heap.size u w')) :=
    fun u p hu => hu.valid (by decide) 10 1 (toplit (by decide)) (by decide)
  have HT2 : Hid (∀ u p, LO n w p 3 1 q16b u → Calls Try.prog 14 #[.pointer (some ⟨p, 0, none⟩), .int .i64 1, .int .i64 2] u fun e w' => e = .returned (.bool true) ∧ Hid (LO n w p 3 1 q16c w' ∧ KHd u w')) :=
    fun u p hu => hu.tell (by decide) 1 2 (by decide) rfl
  have HV2 : Hid (∀ u p, LO n w p 3 1 q16c u → Calls Try.prog 16 #[.pointer (some ⟨p, 0, none⟩), .int .i64 29, .int .i64 1] u fun e w' => e = .returned (.bool true) ∧ Hid (LO n w p 3 1 q16c w' ∧ Below u.heap.size u w')) :=
    fun u p hu => hu.valid (by decide) 29 1 (toplit (by decide)) (by decide)
  have HV3 : Hid (∀ u p, LO n w p 3 1 q16c u → Calls Try.prog 16 #[.pointer (some ⟨p, 0, none⟩), .int .i64 30, .int .i64 1] u fun e w' => e = .returned (.bool false) ∧ Hid (LO n w p 3 1 q16c w' ∧ Below u.heap.size u w')) :=
    fun u p hu => hu.valid (by decide) 30 1 (toplit (by decide)) (by decide)
  have HV4 : Hid (∀ u p, LO n w p 3 1 q16c u → Calls Try.prog 16 #[.pointer (some ⟨p, 0, none⟩), .int .i64 29, .int .i64 2] u fun e w' => e = .returned (.bool false) ∧ Hid (LO n w p 3 1 q16c w' ∧ Below u.heap.size u w')) :=
    fun u p hu => hu.valid (by decide) 29 2 (toplit (by decide)) (by decide)
  have HV5 : Hid (∀ u p, LO n w p 3 1 q16c u → Calls Try.prog 16 #[.pointer (some ⟨p, 0, none⟩), .int .i64 9, .int .i64 1] u fun e w' => e = .returned (.bool false) ∧ Hid (LO n w p 3 1 q16c w' ∧ Below u.heap.size u w')) :=
    fun u p hu => hu.valid (by decide) 9 1 (toplit (by decide)) (by decide)
  have HT3 : Hid (∀ u p, LO n w p 3 1 q16c u → Calls Try.prog 14 #[.pointer (some ⟨p, 0, none⟩), .int .i64 9, .int .i64 1] u fun e w' => e = .returned (.bool false) ∧ Hid (LO n w p 3 1 q16c w' ∧ Below u.heap.size u w')) :=
    fun u p hu => hu.tell_no (by decide) 9 1 (by decide)
  clear hn
  go_enter Try.func15, Try.ntmps15
  go_wp2_with fail
  refine HN.out.mono ?_
  rintro e w1 ⟨p, rfl, H⟩
  clear HN
  have T1 := Lib.hid H.out.1
  clear H
  go_wp2_with fail
  refine (HN0.out _).mono ?_
  rintro e w2 ⟨rfl, rfl⟩
  go_wp2_with fail
  refine (HA.out _ _ T1.out).mono ?_
  rintro e w3 ⟨rfl, T3⟩
  clear T1 HA HN0
  go_wp2_with fail
  refine (HT1.out _ _ T3.out.1).mono ?_
  rintro e w4 ⟨rfl, T4⟩
  clear T3 HT1
  go_wp2_with fail
  refine (HV1.out _ _ T4.out.1).mono ?_
  rintro e w5 ⟨rfl, T5⟩
  clear T4 HV1
  go_wp2_with fail
  refine (HT2.out _ _ T5.out.1).mono ?_
  rintro e w6 ⟨rfl, T6⟩
  clear T5 HT2
  go_wp2_with fail
  refine (HV2.out _ _ T6.out.1).mono ?_
  rintro e w7 ⟨rfl, T7⟩
  clear T6 HV2
  go_wp2_with fail
  refine (HV3.out _ _ T7.out.1).mono ?_
  rintro e w8 ⟨rfl, T8⟩
  clear T7 HV3
  go_wp2_with fail
  refine (HV4.out _ _ T8.out.1).mono ?_
  rintro e w9 ⟨rfl, T9⟩
  clear T8 HV4
  go_wp2_with fail
  refine (HV5.out _ _ T9.out.1).mono ?_
  rintro e w10 ⟨rfl, T10⟩
  clear T9 HV5
  go_wp2_with fail
  refine (HT3.out _ _ T10.out.1).mono ?_
  rintro e w11 ⟨rfl, T11⟩
  go_wp2
  go_returns
  exact ⟨by first | rfl | trivial, T11.out.1.bel⟩
end Go.Proofs.Ytomjlhmkmihbeaa
