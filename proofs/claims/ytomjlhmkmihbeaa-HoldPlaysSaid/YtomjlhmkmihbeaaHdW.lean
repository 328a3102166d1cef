/-
  A LEASE: New, Ask, Told, isMajority, holds, told by contract. No condition but that there were at most a million questions, and that a time is a number of its kind.
-/
import Derived.Test.YtomjlhmkmihbeaaHdV
import Derived.Test.YtomjlhmkmihbeaaTalA
import Derived.Test.YtomjlhmkmihbeaaGrantX
namespace Go.Proofs.Ytomjlhmkmihbeaa
open Go.RowKit

set_option maxHeartbeats 400000 in
theorem hdsize_nil (w : World) : Calls Try.prog 35 #[.pointer none] w fun e w' => e = .returned (.int .i64 0) ∧ w = w' := by
  go_enter Try.func35, Try.ntmps35
  go_wp2
  go_returns
  exact ⟨rfl, rfl⟩

/-! ### New -/
set_option maxHeartbeats 400000 in
theorem hdnew_no (n : Int) (w : World) (hn : ¬ (1 ≤ n ∧ n ≤ 5)) : Calls Try.prog 12 #[.int .i64 n] w fun e w' => e = .returned (.tuple #[.pointer none, .int .i64 1]) ∧ w = w' := by
  by_cases h : n < 1
  · clear hn
    go_enter Try.func12, Try.ntmps12
    go_wp2
    go_returns
    exact ⟨rfl, rfl⟩
  · have h9 : 5 < n := by omega
    clear hn
    go_enter Try.func12, Try.ntmps12
    go_wp2
    go_returns
    exact ⟨rfl, rfl⟩
theorem hd_fresh (w : World) (n : Nat) (h0 : 0 < n) (h5 : n ≤ 5) : Hd (w.alloc (.cells #[.int .i64 n, .int .i64 0, .int .i64 0, .int .i64 0, .bool false, .bool false, .bool false, .bool false, .bool false, .int .i64 0, .int .i64 0, .bool false, .bool false, .bool false, .bool false, .bool false, .int .i64 0, .int .i64 0, .bool false, .bool false, .bool false, .bool false, .bool false, .int .i64 0, .int .i64 0, .bool false, .bool false, .bool false, .bool false, .bool false] 66)) w.heap.size n 0 (fun _ => .zero) :=
  ⟨heap_alloc_new w _, h0, h5⟩
set_option maxRecDepth 100000 in
set_option maxHeartbeats 1000000 in
theorem hdnew_yes (n : Nat) (w : World) (h0 : 0 < n) (h5 : n ≤ 5) : Calls Try.prog 12 #[.int .i64 n] w fun e w' => e = .returned (.tuple #[.pointer (some ⟨w.heap.size, 0, none⟩), .int .i64 0]) ∧ Hd w' w.heap.size n 0 (fun _ => .zero) ∧ Below w.heap.size w w' := by
  have HF := Lib.hid (hd_fresh w n h0 h5)
  have a1 : ¬ (n : Int) < 1 := by omega
  have a5 : ¬ 5 < (n : Int) := by omega
  clear h0 h5
  go_enter Try.func12, Try.ntmps12
  go_wp2
  go_returns
  exact ⟨rfl, HF.out, (Below.refl _ _).alloc (Nat.le_refl _) _⟩

/-! ### Ask -/
/-- May the question be asked? -/
def askB (r : Nat) (qs : Nat → QV) (t ep : Int) : Bool := decide ((0 ≤ t ∧ t ≤ 1099511627776) ∧ (1 ≤ ep ∧ ep ≤ 1073741824) ∧ (0 < r → (qs ((r - 1) % 4)).asked ≤ t))
def QV.new (t ep : Int) : QV := ⟨t, ep, fun _ => false⟩

set_option maxRecDepth 100000 in
set_option maxHeartbeats 1000000 in
theorem hdask_yes {w : World} {b n r : Nat} {qs : Nat → QV} (H : Hd w b n r qs) (hr : r ≤ 1000000) (t ep : Int) (h : askB r qs t ep = true) :
    Calls Try.prog 13 #[.pointer (some ⟨b, 0, none⟩), .int .i64 t, .int .i64 ep] w fun e w' => e = .returned (.int .i64 ((r : Int) + 1)) ∧ Hd w' b n (r + 1) (upQ qs (r % 4) (.new t ep)) ∧ Only (· = b) w w' := by
  obtain ⟨⟨t0, t1⟩, ⟨e0, e1⟩, hl⟩ := of_decide_eq_true h
  have HS := Lib.hid (hdsize_r H)
  have HA : Hid (Calls Try.prog 37 #[.pointer (some ⟨b, 1, none⟩), .agg #[.int .i64 t, .int .i64 ep, .bool false, .bool false, .bool false, .bool false, .bool false]] w fun e w' => e = .returned (.int .i64 ((r : Int) + 1)) ∧ Hd w' b n (r + 1) (upQ qs (r % 4) (.new t ep)) ∧ Only (· = b) w w') := hdadd_r H hr (.new t ep)
  have nb : ((n : Int) == 0) = false := beq_eq_false_iff_ne.2 (by have := H.pos; omega)
  by_cases h0 : 0 < r
  · have HL := Lib.hid (hdlast_yes H hr h0)
    obtain ⟨⟨a0, _⟩, _⟩ := H.q7 (j := (r - 1) % 4) (by omega)
    have hl' := hl h0
    generalize (qs ((r - 1) % 4)).asked = la at a0 hl'
    clear H hl h h0
    go_enter Try.func13, Try.ntmps13
    go_wp2_with fail
    refine HS.out.mono ?_
    rintro e w1 ⟨rfl, rfl⟩
    go_wp2_with fail
    refine HL.out.mono ?_
    rintro e w1 ⟨rfl, rfl⟩
    go_wp2_with fail
    refine HA.out.mono ?_
    rintro e w1 ⟨rfl, H1, O1⟩
    go_wp2
    go_returns
    exact ⟨rfl, H1, O1⟩
  · obtain rfl : r = 0 := by omega
    have HL := Lib.hid (hdlast_no H)
    clear H hl h h0
    go_enter Try.func13, Try.ntmps13
    go_wp2_with fail
    refine HS.out.mono ?_
    rintro e w1 ⟨rfl, rfl⟩
    go_wp2_with fail
    refine HL.out.mono ?_
    rintro e w1 ⟨rfl, rfl⟩
    go_wp2_with fail
    refine HA.out.mono ?_
    rintro e w1 ⟨rfl, H1, O1⟩
    go_wp2
    go_returns
    exact ⟨rfl, H1, O1⟩
set_option maxRecDepth 100000 in
set_option maxHeartbeats 1000000 in
theorem hdask_no {w : World} {b n r : Nat} {qs : Nat → QV} (H : Hd w b n r qs) (hr : r ≤ 1000000) (t ep : Int) (h : askB r qs t ep = false) :
    Calls Try.prog 13 #[.pointer (some ⟨b, 0, none⟩), .int .i64 t, .int .i64 ep] w fun e w' => e = .returned (.int .i64 (-1)) ∧ w = w' := by
  have h' := of_decide_eq_false h
  have HS := Lib.hid (hdsize_r H)
  have nb : ((n : Int) == 0) = false := beq_eq_false_iff_ne.2 (by have := H.pos; omega)
  by_cases t0 : t < 0
  · clear h h' H
    go_enter Try.func13, Try.ntmps13
    go_wp2_with fail
    refine HS.out.mono ?_
    rintro e w1 ⟨rfl, rfl⟩
    go_wp2
    go_returns
    exact ⟨rfl, rfl⟩
  · by_cases t1 : 1099511627776 < t
    · clear h h' H
      go_enter Try.func13, Try.ntmps13
      go_wp2_with fail
      refine HS.out.mono ?_
      rintro e w1 ⟨rfl, rfl⟩
      go_wp2
      go_returns
      exact ⟨rfl, rfl⟩
    · by_cases e0 : ep < 1
      · clear h h' H
        go_enter Try.func13, Try.ntmps13
        go_wp2_with fail
        refine HS.out.mono ?_
        rintro e w1 ⟨rfl, rfl⟩
        go_wp2
        go_returns
        exact ⟨rfl, rfl⟩
      · by_cases e1 : 1073741824 < ep
        · clear h h' H
          go_enter Try.func13, Try.ntmps13
          go_wp2_with fail
          refine HS.out.mono ?_
          rintro e w1 ⟨rfl, rfl⟩
          go_wp2
          go_returns
          exact ⟨rfl, rfl⟩
        · have h0 : 0 < r := Classical.byContradiction fun h0 => h' ⟨by omega, by omega, fun h1 => absurd h1 h0⟩
          have hl' : ¬ (qs ((r - 1) % 4)).asked ≤ t := fun h1 => h' ⟨by omega, by omega, fun _ => h1⟩
          have HL := Lib.hid (hdlast_yes H hr h0)
          obtain ⟨⟨a0, _⟩, _⟩ := H.q7 (j := (r - 1) % 4) (by omega)
          generalize (qs ((r - 1) % 4)).asked = la at a0 hl'
          have hl2 : t < la := by omega
          clear H h h' h0 hl'
          go_enter Try.func13, Try.ntmps13
          go_wp2_with fail
          refine HS.out.mono ?_
          rintro e w1 ⟨rfl, rfl⟩
          go_wp2_with fail
          refine HL.out.mono ?_
          rintro e w1 ⟨rfl, rfl⟩
          go_wp2
          go_returns
          exact ⟨rfl, rfl⟩

/-! ### Told -/
/-- Is the answer counted? -/
def tellB (n r : Nat) (qs : Nat → QV) (id k : Int) : Bool := decide ((0 ≤ k ∧ k < (n : Int)) ∧ (1 ≤ id ∧ id ≤ (r : Int) ∧ (r : Int) - 4 < id) ∧ (qs ((id - 1) % 4).toNat).ep = (qs ((r - 1) % 4)).ep)

set_option maxRecDepth 100000 in
set_option maxHeartbeats 1000000 in
theorem hdtold_yes {w : World} {b n r : Nat} {qs : Nat → QV} (H : Hd w b n r qs) (hr : r ≤ 1000000) (id k : Int) (h : tellB n r qs id k = true) :
    Calls Try.prog 14 #[.pointer (some ⟨b, 0, none⟩), .int .i64 id, .int .i64 k] w fun e w' => e = .returned (.bool true) ∧ Hd w' b n r (upQ qs ((id - 1) % 4).toNat ((qs ((id - 1) % 4).toNat).tell k.toNat)) ∧ Only (· = b) w w' := by
  obtain ⟨⟨k0, k1⟩, hkp, he⟩ := of_decide_eq_true h
  obtain ⟨m, rfl⟩ : ∃ m : Nat, k = m := ⟨k.toNat, by omega⟩
  obtain ⟨p, hp⟩ : ∃ p, p = ((id - 1) % 4).toNat := ⟨_, rfl⟩
  have m5 : m < 5 := by have := H.le; omega
  have m5' : (m : Int) < 5 := by omega
  have p4 : p < 4 := by omega
  rw [← hp] at he ⊢
  rw [show ((m : Int)).toNat = m by omega]
  have HS := Lib.hid (hdsize_r H)
  have HA := Lib.hid (hdat_yes H hr id (decide_eq_true hkp) (p := p) (by omega))
  have HL := Lib.hid (fun q' => (hdlast_yes (H.on (w' := w.drewN q') ⟨rfl, rfl, rfl, Nat.le_refl _, fun _ _ => rfl⟩) hr (by omega)).mono fun e w' ⟨he, hw⟩ => (show e = _ ∧ ∃ q'', w' = (w.drewN q').drewN q'' from ⟨he, 0, hw.symm⟩))
  obtain ⟨⟨_, a1, _⟩, _⟩ := H.q7 (j := p) p4
  obtain ⟨⟨_, b1, _⟩, _⟩ := H.q7 (j := (r - 1) % 4) (by omega)
  rw [he] at a1
  generalize (qs ((r - 1) % 4)).ep = x at a1 b1
  have HN := Lib.hid fun q' => (H.on (w' := w.drewN q') ⟨rfl, rfl, rfl, Nat.le_refl _, fun _ _ => rfl⟩)
  generalize (r - 1) % 4 = p2 at HL b1
  have HP4 := Lib.hid p4
  clear hp H h he hkp hr p4
  go_enter Try.func14, Try.ntmps14
  go_wp2_with fail
  refine HS.out.mono ?_
  rintro e w1 ⟨rfl, rfl⟩
  go_wp2_with fail
  refine HA.out.mono ?_
  rintro e w1 ⟨rfl, rfl⟩
  go_wp2_with fail
  go_quiet (first
    | (go_at_call 36; exact Calls.quiet_of (HL.out _)))
  have HQ := Lib.hid (HN.out nq)
  clear HN a1 b1 HL HA HS
  obtain ⟨W, hW⟩ : ∃ W, W = w.drewN nq := ⟨_, rfl⟩
  have HO : Hid (Only (· = b) w W) := by rw [hW]; exact Only.drewN _ _ _
  rw [← hW] at HQ ⊢
  clear hW
  obtain ⟨z0, z1⟩ := HQ.out.q (j := p) HP4.out (i := 2 + m) (by omega)
  rw [← Nat.add_assoc] at z0 z1
  have HT := Lib.hid (HQ.out.tell p m5)
  have HO2 := Lib.hid (HO.out.trans (Only.set b (2 + p * 7 + 2 + m) W (.bool true)))
  clear HQ HO
  go_wp2
  go_returns
  exact ⟨rfl, HT.out, HO2.out⟩
set_option maxRecDepth 100000 in
set_option maxHeartbeats 1000000 in
theorem hdtold_no {w : World} {b n r : Nat} {qs : Nat → QV} (H : Hd w b n r qs) (hr : r ≤ 1000000) (id k : Int) (h : tellB n r qs id k = false) :
    Calls Try.prog 14 #[.pointer (some ⟨b, 0, none⟩), .int .i64 id, .int .i64 k] w fun e w' => e = .returned (.bool false) ∧ Below w.heap.size w w' := by
  have h' := of_decide_eq_false h
  have HS := Lib.hid (hdsize_r H)
  have HB : Hid (∀ q', Below w.heap.size w (w.drewN q')) := fun q' => ⟨rfl, rfl, rfl, Nat.le_refl _, fun _ _ => rfl⟩
  by_cases k0 : k < 0
  · clear h h' H
    go_enter Try.func14, Try.ntmps14
    go_wp2
    go_returns
    exact ⟨rfl, Below.refl _ _⟩
  · by_cases k1 : (n : Int) ≤ k
    · clear h h' H
      go_enter Try.func14, Try.ntmps14
      go_wp2_with fail
      refine HS.out.mono ?_
      rintro e w1 ⟨rfl, rfl⟩
      go_wp2
      go_returns
      exact ⟨rfl, Below.refl _ _⟩
    · cases hkp : keptV r id with
      | false =>
        have HA := Lib.hid (hdat_no H hr id hkp)
        clear h h' H hkp
        go_enter Try.func14, Try.ntmps14
        go_wp2_with fail
        refine HS.out.mono ?_
        rintro e w1 ⟨rfl, rfl⟩
        go_wp2_with fail
        refine HA.out.mono ?_
        rintro e w1 ⟨rfl, rfl⟩
        go_wp2_with fail
        go_quiet (fail)
        go_wp2
        go_returns
        exact ⟨rfl, HB.out _⟩
      | true =>
        have hk := of_decide_eq_true hkp
        obtain ⟨p, hp⟩ : ∃ p, p = ((id - 1) % 4).toNat := ⟨_, rfl⟩
        have he : ¬ (qs p).ep = (qs ((r - 1) % 4)).ep := fun e => h' ⟨⟨by omega, by omega⟩, hk, by rw [← hp]; exact e⟩
        have HA := Lib.hid (hdat_yes H hr id hkp (p := p) (by omega))
        have HL := Lib.hid (fun q' => (hdlast_yes (H.on (w' := w.drewN q') ⟨rfl, rfl, rfl, Nat.le_refl _, fun _ _ => rfl⟩) hr (by omega)).mono fun e w' ⟨he, hw⟩ => (show e = _ ∧ ∃ q'', w' = (w.drewN q').drewN q'' from ⟨he, 0, hw.symm⟩))
        obtain ⟨⟨_, a1, _⟩, _⟩ := H.q7 (j := p) (by omega)
        obtain ⟨⟨_, b1, _⟩, _⟩ := H.q7 (j := (r - 1) % 4) (by omega)
        generalize (qs ((r - 1) % 4)).ep = x at b1 he
        generalize (qs p).ep = y at a1 he
        have hb : (y != x) = true := by simpa using he
        generalize (r - 1) % 4 = p2 at HL b1
        clear hp H h h' he hk hkp hr
        go_enter Try.func14, Try.ntmps14
        go_wp2_with fail
        refine HS.out.mono ?_
        rintro e w1 ⟨rfl, rfl⟩
        go_wp2_with fail
        refine HA.out.mono ?_
        rintro e w1 ⟨rfl, rfl⟩
        go_wp2_with fail
        go_quiet (first
          | (go_at_call 36; exact Calls.quiet_of (HL.out _)))
        go_wp2
        go_returns
        exact ⟨rfl, HB.out _⟩
end Go.Proofs.Ytomjlhmkmihbeaa
