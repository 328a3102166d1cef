/-
  A BOOK WHOSE BLOCKS LIE ABOVE n: each call by contract, over its list; told. Of at most five thousand keys.
-/
import Derived.Test.YtkieifkbkmdgdaaBookJ
namespace Go.Proofs.Ytkieifkbkmdgdaa
open Go.RowKit

/-- Block B is a book of the list L; its blocks lie from n on; what was there below n in w0 is as it was. -/
def BkO (n : Nat) (w0 : World) (B : Nat) (L : List (Int × Int)) (w : World) : Prop :=
  ∃ T : BT, Bk w B T ∧ T.list = L ∧ (∀ x, blks B T x → n ≤ x) ∧ n ≤ w.heap.size ∧ Below n w0 w
theorem BkO.bel {n : Nat} {w0 : World} {B : Nat} {L : List (Int × Int)} {w : World} (h : BkO n w0 B L w) : Below n w0 w := h.choose_spec.2.2.2.2
theorem BkO.rise {n : Nat} {w0 : World} {B : Nat} {L : List (Int × Int)} {w : World} (h : BkO n w0 B L w) : Rise L := by
  obtain ⟨T, hb, rfl, _⟩ := h
  exact hb.2.2.1
theorem BkO.on {n : Nat} {w0 : World} {B : Nat} {L : List (Int × Int)} {w w' : World} (h : BkO n w0 B L w) (hb : Below w.heap.size w w') : BkO n w0 B L w' := by
  obtain ⟨T, h1, h2, h3, h4, h5⟩ := h
  exact ⟨T, h1.quiet (Only.of hb), h2, h3, Nat.le_trans h4 hb.size, h5.trans (hb.mono h4)⟩
theorem BkO.drewN {n : Nat} {w0 : World} {B : Nat} {L : List (Int × Int)} {w : World} (h : BkO n w0 B L w) (k : Nat) : BkO n w0 B L (w.drewN k) := by
  obtain ⟨T, h1, h2, h3, h4, h5⟩ := h
  exact ⟨T, h1.quiet (Only.drewN _ _ _), h2, h3, h4, ⟨h5.os, h5.tape, h5.output, h5.size, h5.block⟩⟩
theorem BkO.turn {n : Nat} {w0 : World} {B : Nat} {L' : List (Int × Int)} {w w' : World} {T : BT} (h3 : ∀ x, blks B T x → n ≤ x) (h4 : n ≤ w.heap.size) (h5 : Below n w0 w) (h : BkR B T L' w w') : BkO n w0 B L' w' := by
  obtain ⟨T', g1, g2, g3, g4⟩ := h
  refine ⟨T', g1, g2, fun x hx => ?_, Nat.le_trans h4 g4.size, g4.below h5 h3 h4⟩
  rcases hx with rfl | hx
  · exact h3 _ (.inl rfl)
  · rcases g3 x hx with hx | hx
    · exact h3 x (.inr hx)
    · omega

theorem new_o (w0 w : World) (n : Nat) (hb : Below n w0 w) (hn : n ≤ w.heap.size) : Calls Try.prog 7 #[] w fun e w' => e = .returned (.pointer (some ⟨w.heap.size, 0, none⟩)) ∧ BkO n w0 w.heap.size [] w' :=
  (bnew_any w).mono fun _ _ ⟨he, hk, hw⟩ => ⟨he, .nil, hk, rfl, (by rintro x (rfl | hx); exact hn; exact hx.elim), Nat.le_trans hn hw.size, hb.trans (hw.mono hn)⟩
theorem put_o {n : Nat} {w0 : World} {B : Nat} {L : List (Int × Int)} {w : World} (h : BkO n w0 B L w) (hl : L.length ≤ 5000) (k v : Int) :
    Calls Try.prog 8 #[.pointer (some ⟨B, 0, none⟩), .int .i64 k, .int .i64 v] w fun e w' => e = .returned (.tuple #[.int .i64 (gv (getL k L)), .bool (getL k L).isSome]) ∧ BkO n w0 B (putL k v L) w' := by
  obtain ⟨T, h1, rfl, h3, h4, h5⟩ := h
  exact (bput_any B T k v w h1 hl).mono fun e w' ⟨he, hr⟩ => ⟨he, .turn h3 h4 h5 hr⟩
theorem del_o {n : Nat} {w0 : World} {B : Nat} {L : List (Int × Int)} {w : World} (h : BkO n w0 B L w) (hl : L.length ≤ 5000) (k : Int) :
    Calls Try.prog 10 #[.pointer (some ⟨B, 0, none⟩), .int .i64 k] w fun e w' => e = .returned (.bool (getL k L).isSome) ∧ BkO n w0 B (delL k L) w' := by
  obtain ⟨T, h1, rfl, h3, h4, h5⟩ := h
  exact (bdel_any B T k w h1 hl).mono fun e w' ⟨he, hr⟩ => ⟨he, .turn h3 h4 h5 hr⟩
theorem get_o {n : Nat} {w0 : World} {B : Nat} {L : List (Int × Int)} {w : World} (h : BkO n w0 B L w) (k : Int) :
    Calls Try.prog 12 #[.pointer (some ⟨B, 0, none⟩), .int .i64 k] w fun e w' => e = .returned (.tuple #[.int .i64 (gv (getL k L)), .bool (getL k L).isSome]) ∧ BkO n w0 B L w' ∧ Below w.heap.size w w' := by
  have h' := h
  obtain ⟨T, h1, rfl, h3, h4, h5⟩ := h
  refine (bget_any B T k w h1).mono fun e w' ⟨he, m, hw⟩ => ⟨he, ?_, ?_⟩
  · rw [hw]; exact h'.drewN m
  · rw [hw]; exact ⟨rfl, rfl, rfl, Nat.le_refl _, fun _ _ => rfl⟩
theorem len_o {n : Nat} {w0 : World} {B : Nat} {L : List (Int × Int)} {w : World} (h : BkO n w0 B L w) :
    Calls Try.prog 20 #[.pointer (some ⟨B, 0, none⟩)] w fun e w' => e = .returned (.int .i64 L.length) ∧ w = w' := by
  obtain ⟨T, h1, rfl, h3, h4, h5⟩ := h
  exact blen_any B T w h1
theorem TellsL.o {n : Nat} {w0 : World} {B : Nat} {L : List (Int × Int)} {w : World} {X : List Int} {e : Ending} {w' : World} (h : BkO n w0 B L w) (ht : TellsL X w e w') :
    ∃ ao cap, e = .returned (.slice ao X.length cap) ∧ Ints w' w'.heap.size (.slice ao X.length cap) X ∧ BkO n w0 B L w' ∧ Below w.heap.size w w' := by
  obtain ⟨ao, cap, he, hi, hb⟩ := ht
  exact ⟨ao, cap, he, hi, h.on hb, hb⟩
theorem from_o {n : Nat} {w0 : World} {B : Nat} {L : List (Int × Int)} {w : World} (h : BkO n w0 B L w) (hl : L.length ≤ 5000) (k lim : Int) :
    Calls Try.prog 15 #[.pointer (some ⟨B, 0, none⟩), .int .i64 k, .int .i64 lim] w fun e w' => ∃ ao cap, e = .returned (.slice ao ((upL k L).take lim.toNat).length cap) ∧ Ints w' w'.heap.size (.slice ao ((upL k L).take lim.toNat).length cap) ((upL k L).take lim.toNat) ∧ BkO n w0 B L w' ∧ Below w.heap.size w w' := by
  have h' := h
  obtain ⟨T, h1, rfl, h3, h4, h5⟩ := h
  exact (bfrom_any B T k lim w h1 hl).mono fun e w' ht => ht.o h'
theorem back_o {n : Nat} {w0 : World} {B : Nat} {L : List (Int × Int)} {w : World} (h : BkO n w0 B L w) (hl : L.length ≤ 5000) (k lim : Int) :
    Calls Try.prog 17 #[.pointer (some ⟨B, 0, none⟩), .int .i64 k, .int .i64 lim] w fun e w' => ∃ ao cap, e = .returned (.slice ao ((downL k L).take lim.toNat).length cap) ∧ Ints w' w'.heap.size (.slice ao ((downL k L).take lim.toNat).length cap) ((downL k L).take lim.toNat) ∧ BkO n w0 B L w' ∧ Below w.heap.size w w' := by
  have h' := h
  obtain ⟨T, h1, rfl, h3, h4, h5⟩ := h
  exact (bback_any B T k lim w h1 hl).mono fun e w' ht => ht.o h'
theorem keys_o {n : Nat} {w0 : World} {B : Nat} {L : List (Int × Int)} {w : World} (h : BkO n w0 B L w) (hl : L.length ≤ 5000) (hlow : ∀ x ∈ L, -9223372036854775808 ≤ x.1) :
    Calls Try.prog 21 #[.pointer (some ⟨B, 0, none⟩)] w fun e w' => ∃ ao cap, e = .returned (.slice ao (keysL L).length cap) ∧ Ints w' w'.heap.size (.slice ao (keysL L).length cap) (keysL L) ∧ BkO n w0 B L w' ∧ Below w.heap.size w w' := by
  have h' := h
  obtain ⟨T, h1, rfl, h3, h4, h5⟩ := h
  exact (bkeys_any B T w h1 hl hlow).mono fun e w' ht => ht.o h'
theorem least_o {n : Nat} {w0 : World} {B : Nat} {L : List (Int × Int)} {w : World} (h : BkO n w0 B L w) (hl : L.length ≤ 5000) (hlow : ∀ x ∈ L, -9223372036854775808 ≤ x.1) :
    Calls Try.prog 19 #[.pointer (some ⟨B, 0, none⟩)] w fun e w' => e = .returned (.tuple #[.int .i64 ((keysL L).headD 0), .bool (!(keysL L).isEmpty)]) ∧ BkO n w0 B L w' ∧ Below w.heap.size w w' := by
  have h' := h
  obtain ⟨T, h1, rfl, h3, h4, h5⟩ := h
  exact (bleast_any B T w h1 hl hlow).mono fun e w' ⟨he, hb⟩ => ⟨he, h'.on hb, hb⟩

set_option maxRecDepth 100000 in
set_option maxHeartbeats 4000000 in
theorem told6_any (w : World) : Calls Try.prog 22 #[] w fun e w' => e = .returned (.bool true) ∧ Below w.heap.size w w' := by
  have HN := Lib.hid (new_o w w w.heap.size (Below.refl _ _) (Nat.le_refl _))
  have H1 : Hid (∀ u, BkO w.heap.size w w.heap.size [] u → Calls Try.prog 8 #[.pointer (some ⟨w.heap.size, 0, none⟩), .int .i64 5, .int .i64 50] u fun e w' => (∃ x, e = .returned x) ∧ BkO w.heap.size w w.heap.size [(5, 50)] w') :=
    fun u hu => (put_o hu (by simp) 5 50).mono fun e w' ⟨he, hb⟩ => ⟨⟨_, he⟩, hb⟩
  have H2 : Hid (∀ u, BkO w.heap.size w w.heap.size [(5, 50)] u → Calls Try.prog 8 #[.pointer (some ⟨w.heap.size, 0, none⟩), .int .i64 3, .int .i64 30] u fun e w' => (∃ x, e = .returned x) ∧ BkO w.heap.size w w.heap.size [(3, 30), (5, 50)] w') :=
    fun u hu => (put_o hu (by simp) 3 30).mono fun e w' ⟨he, hb⟩ => ⟨⟨_, he⟩, hb⟩
  have H3 : Hid (∀ u, BkO w.heap.size w w.heap.size [(3, 30), (5, 50)] u → Calls Try.prog 8 #[.pointer (some ⟨w.heap.size, 0, none⟩), .int .i64 5, .int .i64 51] u fun e w' => e = .returned (.tuple #[.int .i64 50, .bool true]) ∧ BkO w.heap.size w w.heap.size [(3, 30), (5, 51)] w') :=
    fun u hu => (put_o hu (by simp) 5 51).mono fun e w' ⟨he, hb⟩ => ⟨he, hb⟩
  have H4 : Hid (∀ u, BkO w.heap.size w w.heap.size [(3, 30), (5, 51)] u → Calls Try.prog 12 #[.pointer (some ⟨w.heap.size, 0, none⟩), .int .i64 5] u fun e w' => e = .returned (.tuple #[.int .i64 51, .bool true]) ∧ BkO w.heap.size w w.heap.size [(3, 30), (5, 51)] w') :=
    fun u hu => (get_o hu 5).mono fun e w' ⟨he, hb, _⟩ => ⟨he, hb⟩
  have H5 : Hid (∀ u, BkO w.heap.size w w.heap.size [(3, 30), (5, 51)] u → Calls Try.prog 15 #[.pointer (some ⟨w.heap.size, 0, none⟩), .int .i64 4, .int .i64 1] u fun e w' => ∃ b off cap, e = .returned (.slice (some ⟨b, off, none⟩) 1 cap) ∧ w'.cell? ⟨b, off, none⟩ = some (.int .i64 5) ∧ b < w'.heap.size ∧ BkO w.heap.size w w.heap.size [(3, 30), (5, 51)] w') := by
    intro u hu
    refine (from_o hu (by simp) 4 1).mono fun e w' ⟨ao, cap, he, hi, hb, _⟩ => ?_
    obtain ⟨a, c, hv, _, _, _, h4⟩ := hi
    obtain ⟨b, off, rfl, hlt, hc⟩ := h4 (by decide)
    cases hv
    exact ⟨b, off, _, he, hc 0 (by decide), hlt, hb⟩
  have H6 : Hid (∀ u, BkO w.heap.size w w.heap.size [(3, 30), (5, 51)] u → Calls Try.prog 19 #[.pointer (some ⟨w.heap.size, 0, none⟩)] u fun e w' => e = .returned (.tuple #[.int .i64 3, .bool true]) ∧ BkO w.heap.size w w.heap.size [(3, 30), (5, 51)] w' ∧ Below u.heap.size u w') :=
    fun u hu => (least_o hu (by simp) (by simp)).mono fun e w' ⟨he, hb⟩ => ⟨he, hb⟩
  have H7 : Hid (∀ u, BkO w.heap.size w w.heap.size [(3, 30), (5, 51)] u → Calls Try.prog 20 #[.pointer (some ⟨w.heap.size, 0, none⟩)] u fun e w' => e = .returned (.int .i64 2) ∧ u = w') :=
    fun u hu => (len_o hu).mono fun e w' ⟨he, hb⟩ => ⟨he, hb⟩
  have H8 : Hid (∀ u, BkO w.heap.size w w.heap.size [(3, 30), (5, 51)] u → Calls Try.prog 10 #[.pointer (some ⟨w.heap.size, 0, none⟩), .int .i64 3] u fun e w' => e = .returned (.bool true) ∧ BkO w.heap.size w w.heap.size [(5, 51)] w') :=
    fun u hu => (del_o hu (by simp) 3).mono fun e w' ⟨he, hb⟩ => ⟨he, hb⟩
  have H9 : Hid (∀ u, BkO w.heap.size w w.heap.size [(5, 51)] u → Calls Try.prog 10 #[.pointer (some ⟨w.heap.size, 0, none⟩), .int .i64 3] u fun e w' => e = .returned (.bool false) ∧ BkO w.heap.size w w.heap.size [(5, 51)] w') :=
    fun u hu => (del_o hu (by simp) 3).mono fun e w' ⟨he, hb⟩ => ⟨he, hb⟩
  go_enter Try.func22, Try.ntmps22
  go_wp2_with fail
  refine HN.out.mono ?_
  rintro e w1 ⟨rfl, hb⟩
  have B1 := Lib.hid hb
  clear hb
  go_wp2_with fail
  refine (H1.out _ B1.out).mono ?_
  rintro e w2 ⟨⟨x, rfl⟩, hb⟩
  have B2 := Lib.hid hb
  clear hb B1
  go_wp2_with fail
  refine (H2.out _ B2.out).mono ?_
  rintro e w3 ⟨⟨x, rfl⟩, hb⟩
  have B3 := Lib.hid hb
  clear hb B2
  go_wp2_with fail
  refine (H3.out _ B3.out).mono ?_
  rintro e w4 ⟨rfl, hb⟩
  have B4 := Lib.hid hb
  clear hb B3
  go_wp2_with fail
  refine (H4.out _ B4.out).mono ?_
  rintro e w5 ⟨rfl, hb⟩
  have B5 := Lib.hid hb
  clear hb B4
  go_wp2_with fail
  refine (H5.out _ B5.out).mono ?_
  rintro e w6 ⟨b, off, cap, rfl, hc, hlt, hb⟩
  have B6 := Lib.hid hb
  clear hb B5
  go_wp2_with fail
  refine (H6.out _ B6.out).mono ?_
  rintro e w7 ⟨rfl, hb, hbel⟩
  have B7 := Lib.hid hb
  have hc7 : w7.cell? ⟨b, off, none⟩ = some (.int .i64 5) := (hbel.cell (p := ⟨b, off, none⟩) hlt).trans hc
  clear hb B6 hc hbel hlt
  go_wp2_with fail
  refine (H7.out _ B7.out).mono ?_
  rintro e w8 ⟨rfl, rfl⟩
  go_wp2_with fail
  refine (H8.out _ B7.out).mono ?_
  rintro e w9 ⟨rfl, hb⟩
  have B9 := Lib.hid hb
  clear hb
  go_wp2_with fail
  refine (H9.out _ B9.out).mono ?_
  rintro e w10 ⟨rfl, hb⟩
  have B10 := Lib.hid hb.bel
  clear hb
  go_wp2
  go_returns
  exact ⟨rfl, B10.out⟩
end Go.Proofs.Ytkieifkbkmdgdaa
