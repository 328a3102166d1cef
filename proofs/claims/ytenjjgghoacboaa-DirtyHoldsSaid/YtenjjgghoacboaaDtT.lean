/-
  casebooklaw19.told answers true. No condition.
-/
import Derived.Test.YtenjjgghoacboaaDtR
import Derived.Test.YtenjjgghoacboaaLnX
namespace Go.Proofs.Ytenjjgghoacboaa
open Go.RowKit

def tq19 : ReqV := ⟨0, 1, 1, 3, 0, ⟨#[120]⟩⟩
/-- The law's log, a request's block, a row's cell. -/
structure TD (n : Nat) (w : World) (g : Nat) (L : List ReqV) (c : Nat) (S : Nat → Prop) (b p : Nat) (u : World) : Prop where
  lo : GLo n w g 5 L c S u
  rb : ReqB u b 1 1 4 3 0 ⟨#[]⟩
  row : p < u.heap.size ∧ u.cell? ⟨p, 0, none⟩ = some (.int .i64 3)
  nb : ¬ S b
  np : ¬ S p
section
variable {n : Nat} {w u u' : World} {g : Nat} {L L' : List ReqV} {c c' : Nat} {S S' : Nat → Prop} {b p : Nat}
theorem TD.on (h : TD n w g L c S b p u) (hb : Below u.heap.size u u') : TD n w g L c S b p u' := ⟨h.lo.on hb, h.rb.keep hb h.rb.lt, ⟨Nat.lt_of_lt_of_le h.row.1 hb.size, (hb.cell (p := ⟨p, 0, none⟩) h.row.1).trans h.row.2⟩, h.nb, h.np⟩
theorem TD.turn (h : TD n w g L c S b p u) (t : LTurn n w g 5 L' c' S S' u u') : TD n w g L' c' S' b p u' :=
  ⟨t.lo, h.rb.only t.only h.nb, ⟨Nat.lt_of_lt_of_le h.row.1 t.only.size, (World.cell?_of_block (a := ⟨p, 0, none⟩) (t.only.block p h.row.1 h.np)).trans h.row.2⟩, fun hs => (t.more b hs).elim h.nb (fun hx => by have := h.rb.lt; omega), fun hs => (t.more p hs).elim h.np (fun hx => by have := h.row.1; omega)⟩
end

set_option maxRecDepth 100000 in
set_option maxHeartbeats 2000000 in
theorem told19_any (w : World) : Calls Try.prog 26 #[] w fun e w' => e = .returned (.bool true) ∧ Below w.heap.size w w' := by
  obtain ⟨n, hn⟩ : ∃ n, n = w.heap.size := ⟨_, rfl⟩
  have HN : Hid (Calls Try.prog 11 #[.int .i64 5] w fun e w' => ∃ g S, e = .returned (.tuple #[.pointer (some ⟨g, 0, none⟩), .int .i64 0]) ∧ Hid (GLo n w g 5 [] 0 S w' ∧ Below w.heap.size w w' ∧ ∀ x, S x → w.heap.size ≤ x)) := glo_new 5 (by decide) (by decide) (Below.refl _ _) (Nat.le_of_eq hn)
  have hV1 : lputV [] tq19 = ([tq19], 1, 0) := lputV_yes (by decide) (by decide)
  have H1 : Hid (∀ g S u, GLo n w g 5 [] 0 S u → Calls Try.prog 19 #[.pointer (some ⟨g, 0, none⟩), .agg #[.int .i64 0, .int .i64 1, .int .i64 1, .int .i64 3, .int .i64 0, .string ⟨#[120]⟩]] u fun e w' => e = .returned (.tuple #[.int .i64 1, .int .i64 0]) ∧ ∃ S', Hid (GLo n w g 5 [tq19] 0 S' w')) :=
    fun g S u h => (h.put (by decide) 0 1 1 3 0 ⟨#[120]⟩ (by decide) _ _ _ hV1).mono fun _ _ ⟨he, S', ht⟩ => ⟨he, S', ht.lo⟩
  have hdir : dirL [tq19] 0 = [3] := by decide
  have H2 : Hid (∀ g S u, GLo n w g 5 [tq19] 0 S u → Calls Try.prog 29 #[.pointer (some ⟨g, 0, none⟩)] u fun e w' => ∃ p cc, e = .returned (.slice (some ⟨p, 0, none⟩) 1 cc) ∧ Hid (1 ≤ cc) ∧ Hid (TD n w g [tq19] 0 S w'.heap.size p (w'.alloc (.cells #[.int .i64 1, .int .i64 1, .int .i64 4, .int .i64 3, .int .i64 0, .string ⟨#[]⟩] 34)))) :=
    fun g S u h => (ddirty_r h).mono fun e w' ⟨v, he, hr, hb⟩ => by
      rw [hdir] at hr
      obtain ⟨p, cc, hv, hcc, hlo, hlt, hx⟩ := own_cell hr 0 (.int .i64 3) rfl
      have ha : Below w'.heap.size w' (w'.alloc (.cells #[.int .i64 1, .int .i64 1, .int .i64 4, .int .i64 3, .int .i64 0, .string ⟨#[]⟩] 34)) := (Below.refl _ _).alloc (Nat.le_refl _) _
      exact ⟨p, cc, by rw [he, hv]; rfl, hcc, (h.on hb).on ha, ReqB.fresh w' 1 1 4 3 0 ⟨#[]⟩ 34, ⟨Nat.lt_of_lt_of_le hlt ha.size, (ha.cell (p := ⟨p, 0, none⟩) hlt).trans hx⟩, fun hs => by have := ((h.on hb).all hs).2.1; omega, fun hs => by have := (h.all hs).2.1; omega⟩
  have H3 : Hid (∀ g S b p u, TD n w g [tq19] 0 S b p u → Calls Try.prog 27 #[.pointer (some ⟨g, 0, none⟩), .agg #[.int .i64 1, .int .i64 1, .int .i64 4, .int .i64 3, .int .i64 0, .string ⟨#[]⟩]] u fun e w' => e = .returned (.tuple #[.agg #[.int .i64 0, .int .i64 0, .string ⟨#[]⟩, .slice none 0 0], .int .i64 0, .int .i64 4]) ∧ Hid (TD n w g [tq19] 0 S b p w')) :=
    fun g S b p u h => (dread_no h.lo 1 1 4 0 3 ⟨#[]⟩ (by decide) (by decide) (by decide)).mono fun _ _ ⟨he, hb⟩ => ⟨he, h.on hb⟩
  have H4 : Hid (∀ g S b p u, TD n w g [tq19] 0 S b p u → Calls Try.prog 21 #[.pointer (some ⟨g, 0, none⟩), .int .i64 1] u fun e w' => e = .returned (.int .i64 0) ∧ ∃ S', Hid (TD n w g [tq19] 1 S' b p w')) :=
    fun g S b p u h => (h.lo.comYes (by decide) 1 (by decide) (by decide)).mono fun _ _ ⟨he, S', ht⟩ => ⟨he, S', h.turn ht⟩
  have H5 : Hid (∀ g S b p u, TD n w g [tq19] 1 S b p u → Calls Try.prog 27 #[.pointer (some ⟨g, 0, none⟩), .agg #[.int .i64 1, .int .i64 1, .int .i64 4, .int .i64 3, .int .i64 0, .string ⟨#[]⟩]] u fun e w' => ∃ ao cap, e = .returned (.tuple #[.agg #[.int .i64 1, .int .i64 1, .string ⟨#[120]⟩, .slice ao 0 cap], .int .i64 1, .int .i64 0]) ∧ Hid (TD n w g [tq19] 1 S b p w')) :=
    fun g S b p u h => (dread_yes h.lo (by decide) 1 1 4 0 3 ⟨#[]⟩ (by decide) (by decide) (by decide) 1 1 ⟨#[120]⟩ [] 0 (by kernel_rfl) rfl).mono fun _ _ ⟨ao, cap, he, _, _, hb⟩ => ⟨ao, cap, he, h.on hb⟩
  have H6 : Hid (∀ g S b p u, TD n w g [tq19] 1 S b p u → Calls Try.prog 30 #[.pointer (some ⟨g, 0, none⟩), .int .i64 3] u fun e w' => e = .returned (.bool true) ∧ u = w') := fun g S b p u h => dclean_r h.lo 3 true (by decide)
  have H7 : Hid (∀ g S b p u, TD n w g [tq19] 1 S b p u → Calls Try.prog 30 #[.pointer (some ⟨g, 0, none⟩), .int .i64 99] u fun e w' => e = .returned (.bool false) ∧ u = w') := fun g S b p u h => dclean_r h.lo 99 false (by decide)
  have HNN := Lib.hid hn
  clear hV1 hdir hn
  go_enter Try.func26, Try.ntmps26
  go_wp2_with fail
  refine HN.out.mono ?_
  rintro e w1 ⟨g, S, rfl, T1⟩
  have G1 := Lib.hid T1.out.1
  clear T1 HN
  go_wp2_with fail
  refine (H1.out g S w1 G1.out).mono ?_
  rintro e w2 ⟨rfl, S2, G2⟩
  clear G1 H1
  go_wp2_with fail
  refine (H2.out g S2 w2 G2.out).mono ?_
  rintro e w3 ⟨p, cc, rfl, hcc, K3⟩
  obtain ⟨b, hb⟩ : ∃ b, b = w3.heap.size := ⟨_, rfl⟩
  obtain ⟨w4, hw4⟩ : ∃ w4, w4 = w3.alloc (.cells #[.int .i64 1, .int .i64 1, .int .i64 4, .int .i64 3, .int .i64 0, .string ⟨#[]⟩] 34) := ⟨_, rfl⟩
  rw [← hb, ← hw4] at K3
  have HW4 := Lib.hid hw4
  have HBB := Lib.hid hb
  clear hw4 hb G2 H2
  go_upto_region 7 with fail
  rw [← HW4.out, ← HBB.out]
  obtain ⟨e0, e1, e2, e3, e4, e5⟩ := K3.out.rb.cells
  go_wp2_with fail
  refine (H3.out g S2 b p w4 K3.out).mono ?_
  rintro e w5 ⟨rfl, K5⟩
  clear e0 e1 e2 e3 e4 e5 K3 H3
  go_wp2_with fail
  have K6 := Lib.hid (K5.out.on ((Below.refl _ _).alloc (Nat.le_refl _) (.cells #[.int .i64 0, .int .i64 0, .string ⟨#[]⟩, .slice none 0 0] 48)))
  refine (H4.out g S2 b p _ K6.out).mono ?_
  rintro e w7 ⟨rfl, S3, K7⟩
  clear K5 K6 H4
  obtain ⟨e0, e1, e2, e3, e4, e5⟩ := K7.out.rb.cells
  go_wp2_with fail
  refine (H5.out g S3 b p w7 K7.out).mono ?_
  rintro e w8 ⟨ao, cap, rfl, K8⟩
  clear e0 e1 e2 e3 e4 e5 K7 H5
  obtain ⟨b9, hb9⟩ : ∃ b, b = w8.heap.size := ⟨_, rfl⟩
  obtain ⟨w9, hw9⟩ : ∃ w4, w4 = w8.alloc (.cells #[.int .i64 1, .int .i64 1, .string ⟨#[120]⟩, .slice ao 0 cap] 48) := ⟨_, rfl⟩
  have K9 : Hid (TD n w g [tq19] 1 S3 b p w9) := by rw [hw9]; exact K8.out.on ((Below.refl _ _).alloc (Nat.le_refl _) _)
  have hd9 : w9.cell? ⟨b9, 2, none⟩ = some (.string ⟨#[120]⟩) := by
    have h := heap_alloc_new w8 (.cells #[.int .i64 1, .int .i64 1, .string ⟨#[120]⟩, .slice ao 0 cap] 48)
    rw [hw9, hb9, cell_of_row _ _ _ _ _ _ h]
    rfl
  have HW9 := Lib.hid hw9
  have HB9 := Lib.hid hb9
  have hp := K9.out.row.2
  have hcc1 := hcc.out
  clear hw9 hb9 K8 hcc
  go_upto_region 10 with fail
  rw [← HW9.out, ← HB9.out]
  go_wp2_with fail
  refine (H6.out g S3 b p w9 K9.out).mono ?_
  rintro e wx ⟨rfl, rfl⟩
  go_wp2_with fail
  refine (H7.out g S3 b p w9 K9.out).mono ?_
  rintro e wx ⟨rfl, rfl⟩
  go_wp2_with fail
  refine (dclean_nil 3 w9).mono ?_
  rintro e wx ⟨rfl, rfl⟩
  have KB := Lib.hid K9.out.lo.bel
  clear K9 H6 H7 hp hd9
  go_wp2
  go_returns
  exact ⟨rfl, by rw [← HNN.out]; exact KB.out⟩
end Go.Proofs.Ytenjjgghoacboaa
