/-
  THE PROGRAM's COUNT: Yes; Promise and Yes of none; a count as a law has it, each call by contract, what else stands. For counts as they may be; chains of at most a million nodes.
-/
import Derived.Test.YtiidmiioegdfaaaTalB
namespace Go.Proofs.Ytiidmiioegdfaaa
open Go.RowKit Go.Maps

set_option maxRecDepth 100000 in
set_option maxHeartbeats 4000000 in
theorem tyyes_r {w : World} {p pm ym : Nat} {cv : Value} {s : TalV} (hA : TalR w p pm ym cv s) (hok : s.ok) (x : Int) {s' : TalV} (hs : yesS s x = s') {R : Bool} (hR : yesB s x = R) :
    Calls Try.prog 16 #[.pointer (some ⟨p, 0, none⟩), .int .i64 x] w fun e w' => e = .returned (.bool R) ∧ Hid (TalR w' p pm ym cv s' ∧ Only (fun b => b = p ∨ b = pm ∨ b = ym) w w') := by
  obtain ⟨Z, hZ⟩ : ∃ Z, Z = rdyB s := ⟨_, rfl⟩
  obtain ⟨S, hS⟩ : ∃ S, S = s.seat x := ⟨_, rfl⟩
  obtain ⟨D, hD⟩ : ∃ D, D = !decide (x ∈ s.Y) := ⟨_, rfl⟩
  have hRR : R = (Z && S && D) := by rw [← hR, hZ, hS, hD]; rfl
  have HZ : Hid (Calls Try.prog 18 #[.pointer (some ⟨p, 0, none⟩)] w fun e w' => e = .returned (.bool Z) ∧ Below w.heap.size w w') := tyready_r hA hok hZ.symm
  have HSEAT : Hid (∀ u, TalB u p pm ym cv s → Calls Try.prog 30 #[.pointer (some ⟨p, 0, none⟩), .int .i64 x] u fun e w' => e = .returned (.bool S) ∧ u = w') := fun u hu => tyhas_r hu x hS.symm
  have HA := Lib.hid hA
  have HRR := Lib.hid hRR
  have HSS := Lib.hid hs
  have HPB := Lib.hid hR
  have HOK := Lib.hid hok
  have HDD := Lib.hid hD
  have HSE := Lib.hid hS
  have same (h : R = false) : s' = s := by rw [← hs, yesS, if_neg (by rw [hR, h]; decide)]
  have HSAME := Lib.hid same
  clear hs hRR hR hS hZ hD hA hok same
  cases Z with
  | false =>
    obtain rfl : R = false := by rw [HRR.out]; rfl
    obtain rfl : s' = s := HSAME.out rfl
    go_enter Try.func16, Try.ntmps16
    go_wp2_with fail
    refine HZ.out.mono ?_
    rintro e w1 ⟨rfl, B1⟩
    go_wp2
    go_returns
    exact ⟨by first | rfl | trivial, HA.out.on B1, .of B1⟩
  | true =>
    cases S with
    | false =>
      obtain rfl : R = false := by rw [HRR.out]; rfl
      obtain rfl : s' = s := HSAME.out rfl
      go_enter Try.func16, Try.ntmps16
      go_wp2_with fail
      refine HZ.out.mono ?_
      rintro e w1 ⟨rfl, B1⟩
      have A1 := Lib.hid (HA.out.on B1)
      have HB1 := Lib.hid B1
      clear B1
      go_wp2_with fail
      refine (HSEAT.out _ A1.out.b).mono ?_
      rintro e w2 ⟨rfl, rfl⟩
      go_wp2
      go_returns
      exact ⟨by first | rfl | trivial, A1.out, .of HB1.out⟩
    | true =>
      have HADD : Hid (∀ u, SetB u ym s.Y → Calls Try.prog 32 #[.map (some ym), .int .i64 x] u fun e w' => e = .returned (.bool D) ∧ Hid (SetB w' ym (addL s.Y x) ∧ Only (· = ym) u w')) := fun u hu =>
        tyadd_r hu (by have h1 := TalV.seat_yes HSE.out.symm; have h2 := HOK.out.n; omega) (by have := HOK.out.few; omega) HDD.out.symm
      go_enter Try.func16, Try.ntmps16
      go_wp2_with fail
      refine HZ.out.mono ?_
      rintro e w1 ⟨rfl, B1⟩
      have A1 := Lib.hid (HA.out.on B1)
      have HB1 := Lib.hid B1
      clear B1
      go_wp2_with fail
      refine (HSEAT.out _ A1.out.b).mono ?_
      rintro e w2 ⟨rfl, rfl⟩
      obtain ⟨_, _, _, _, t4, _⟩ := A1.out.b.cells
      go_wp2_with fail
      refine (HADD.out _ A1.out.y).mono ?_
      rintro e w3 ⟨rfl, H3⟩
      clear t4
      have O3 := Lib.hid ((Only.of (S := fun b => b = p ∨ b = pm ∨ b = ym) HB1.out).then H3.out.2 (fun y _ hy => Or.inr (Or.inr hy)))
      have A3 := Lib.hid (A1.out.yessed H3.out.1 H3.out.2)
      have HE : Hid (D = R) := by show _ = _; rw [HRR.out]; rfl
      have HST : Hid (TalR w3 p pm ym cv s') := by
        cases D with
        | false =>
          obtain rfl : s' = s := HSAME.out (by rw [← HE.out])
          have hin : addL s'.Y x = s'.Y := if_pos (by have := HDD.out; simpa using this.symm)
          have := A3.out
          rw [hin] at this
          exact this
        | true =>
          have hin : addL s.Y x = s.Y ++ [x] := if_neg (by have := HDD.out; simpa using this.symm)
          have h1 := A3.out
          rw [hin] at h1
          have h2 : s' = s.yes x := by rw [← HSS.out, yesS, if_pos (by rw [HPB.out, ← HE.out])]
          rw [h2]
          exact h1
      clear HSAME HADD
      go_wp2
      go_returns
      exact ⟨ret_bool HE.out, HST.out, O3.out⟩

set_option maxHeartbeats 1000000 in
theorem typro_nil (x : Int) (v : VoteV) (vv : Value) (w : World) :
    Calls Try.prog 14 #[.pointer none, .int .i64 x, .agg #[.int .i64 v.pr, .int .i64 v.pn, .int .i64 v.ar, .int .i64 v.an, .bool v.has, .int .i64 v.ce, vv]] w fun e w' => e = .returned (.bool false) ∧ Below w.heap.size w w' := by
  have HN := Lib.hid (fun u => tyhas_nil x u)
  go_enter Try.func14, Try.ntmps14
  go_wp2_with fail
  refine (HN.out _).mono ?_
  rintro e w1 ⟨rfl, rfl⟩
  go_wp2
  go_returns
  exact ⟨by first | rfl | trivial, (Below.refl _ w).alloc (Nat.le_refl _) _⟩
set_option maxHeartbeats 1000000 in
theorem tyyes_nil (x : Int) (w : World) :
    Calls Try.prog 16 #[.pointer none, .int .i64 x] w fun e w' => e = .returned (.bool false) ∧ w = w' := by
  have HN := Lib.hid (fun u => tyready_nil u)
  go_enter Try.func16, Try.ntmps16
  go_wp2_with fail
  refine (HN.out _).mono ?_
  rintro e w1 ⟨rfl, rfl⟩
  go_wp2
  go_returns
  exact ⟨by first | rfl | trivial, rfl⟩

/-- A count stands while a block of another kind is written. -/
theorem TalR.beside {w w' : World} {p pm ym q : Nat} {cv : Value} {s : TalV} (h : TalR w p pm ym cv s) {cs : Array Value} {T : TypeId} (hq : w.heap[q]? = some (.cells cs T (0, 0))) (hT : T ≠ 68) (hi : T ≠ 3) (ho : Only (· = q) w w') : TalR w' p pm ym cv s :=
  ⟨h.b.of (ho.block p h.b.lt fun e => by
    subst e
    have h1 : w.heap[p]? = _ := h.b
    rw [hq] at h1
    simp only [Option.some.injEq, Obj.cells.injEq] at h1
    exact hT h1.2.1),
   h.p.keep ho (fun e => by
    subst e
    obtain ⟨es, clock, hm⟩ := h.p.isMap
    rw [hm] at hq
    cases hq),
   h.y.keep ho (fun e => by
    subst e
    obtain ⟨es, clock, hm⟩ := h.y.isMap
    rw [hm] at hq
    cases hq), h.c.beside hq hi ho, h.ne⟩

/-- Count p, from block n on, in state s; what was there below n in w0 is as it was. -/
structure TO (n : Nat) (w0 : World) (p : Nat) (s : TalV) (w : World) : Prop where
  a : ∃ pm ym cv, TalR w p pm ym cv s ∧ n ≤ pm ∧ n ≤ ym
  low : n ≤ p
  size : n ≤ w.heap.size
  bel : Below n w0 w
  ok : s.ok
section
variable {n p : Nat} {w0 w w' : World} {s : TalV}
theorem TO.on (h : TO n w0 p s w) (hb : Below w.heap.size w w') : TO n w0 p s w' := by
  obtain ⟨pm, ym, cv, a, b, c⟩ := h.a
  exact ⟨⟨pm, ym, cv, a.on hb, b, c⟩, h.low, Nat.le_trans h.size hb.size, h.bel.trans (hb.mono h.size), h.ok⟩
theorem TO.drew (h : TO n w0 p s w) : TO n w0 p s w.drew := h.on (Below.drew (Below.refl _ _))
theorem TO.beside (h : TO n w0 p s w) {q : Nat} {cs : Array Value} {T : TypeId} (hq : w.heap[q]? = some (.cells cs T (0, 0))) (hT : T ≠ 68) (hi : T ≠ 3) (hn : n ≤ q) (ho : Only (· = q) w w') : TO n w0 p s w' := by
  obtain ⟨pm, ym, cv, a, b, c⟩ := h.a
  exact ⟨⟨pm, ym, cv, a.beside hq hT hi ho, b, c⟩, h.low, Nat.le_trans h.size ho.size, ho.below h.bel (fun y hy => by subst hy; exact hn) h.size, h.ok⟩
theorem to_new (m : Nat) (h1 : 1 ≤ m) (h5 : m ≤ 5) (r k : Int) (hm : mayV r k = true) (ce : Int) (v : Value) (L : List Int) (B : Nat) (hIn : Ints w B v L) (hB : B ≤ w.heap.size) (hmay : ChainV.may ⟨ce, L⟩) (hb : Below n w0 w) (hn : n ≤ w.heap.size) :
    Calls Try.prog 9 #[.int .i64 m, .agg #[.int .i64 r, .int .i64 k], .agg #[.int .i64 ce, v]] w fun e w' => ∃ p, e = .returned (.tuple #[.pointer (some ⟨p, 0, none⟩), .int .i64 0]) ∧ Hid (TO n w0 p (TalV.first m r k ce L) w' ∧ Below w.heap.size w w') :=
  (tynew_r m h1 h5 r k hm ce v L B w hIn hB hmay).mono fun _ _ ⟨p, he, hh⟩ => by
    obtain ⟨⟨pm, ym, cv, a, b, c, d, _⟩, hb'⟩ := hh.out
    exact ⟨p, he, ⟨⟨pm, ym, cv, a, by omega, by omega⟩, by omega, Nat.le_trans hn hb'.size, hb.trans (hb'.mono hn), TalV.ok_first h1 h5 hmay.2.2.2.1⟩, hb'⟩
theorem to_pro (h : TO n w0 p s w) (x : Int) (v : VoteV) (vv : Value) (B : Nat) (hIn : Ints w B vv v.C) (hB : B ≤ w.heap.size) (he0 : -9223372036854775808 ≤ v.ce) (he1 : v.ce ≤ 9223372036854775807) (hlim : v.C.length ≤ 1000000) {s' : TalV} (hs : proS s x v = s') {R : Bool} (hR : proB s x v = R) :
    Calls Try.prog 14 #[.pointer (some ⟨p, 0, none⟩), .int .i64 x, .agg #[.int .i64 v.pr, .int .i64 v.pn, .int .i64 v.ar, .int .i64 v.an, .bool v.has, .int .i64 v.ce, vv]] w fun e w' => e = .returned (.bool R) ∧ Hid (TO n w0 p s' w' ∧ KTal w w') := by
  obtain ⟨pm, ym, cv, a, b, c⟩ := h.a
  exact (typro_r a h.ok x v vv B hIn hB he0 he1 hlim hs hR).mono fun _ _ ⟨he, hh⟩ => by
    obtain ⟨⟨cv', a', _⟩, ho⟩ := hh.out
    exact ⟨he, ⟨⟨pm, ym, cv', a', b, c⟩, h.low, Nat.le_trans h.size ho.size, ho.below h.bel (fun y hy => by have := h.low; rcases hy with rfl | rfl | rfl <;> assumption) h.size, hs ▸ TalV.ok_pro h.ok x v⟩, .only a ho⟩
theorem to_yes (h : TO n w0 p s w) (x : Int) {s' : TalV} (hs : yesS s x = s') {R : Bool} (hR : yesB s x = R) :
    Calls Try.prog 16 #[.pointer (some ⟨p, 0, none⟩), .int .i64 x] w fun e w' => e = .returned (.bool R) ∧ Hid (TO n w0 p s' w' ∧ KTal w w') := by
  obtain ⟨pm, ym, cv, a, b, c⟩ := h.a
  exact (tyyes_r a h.ok x hs hR).mono fun _ _ ⟨he, hh⟩ => by
    obtain ⟨a', ho⟩ := hh.out
    exact ⟨he, ⟨⟨pm, ym, cv, a', b, c⟩, h.low, Nat.le_trans h.size ho.size, ho.below h.bel (fun y hy => by have := h.low; rcases hy with rfl | rfl | rfl <;> assumption) h.size, hs ▸ TalV.ok_yes h.ok x⟩, .only a ho⟩
theorem to_rdy (h : TO n w0 p s w) {R : Bool} (hR : rdyB s = R) : Calls Try.prog 18 #[.pointer (some ⟨p, 0, none⟩)] w fun e w' => e = .returned (.bool R) ∧ Hid (TO n w0 p s w' ∧ Below w.heap.size w w') := by
  obtain ⟨pm, ym, cv, a, b, c⟩ := h.a
  exact (tyready_r a h.ok hR).mono fun _ _ ⟨he, hb⟩ => ⟨he, h.on hb, hb⟩
theorem to_don (h : TO n w0 p s w) {R : Bool} (hR : donB s = R) : Calls Try.prog 19 #[.pointer (some ⟨p, 0, none⟩)] w fun e w' => e = .returned (.bool R) ∧ Hid (TO n w0 p s w' ∧ Below w.heap.size w w') := by
  obtain ⟨pm, ym, cv, a, b, c⟩ := h.a
  exact (tydone_r a h.ok hR).mono fun _ _ ⟨he, hb⟩ => ⟨he, h.on hb, hb⟩
theorem to_chain (h : TO n w0 p s w) : Calls Try.prog 21 #[.pointer (some ⟨p, 0, none⟩)] w fun e w' => ∃ a c, e = .returned (.agg #[.int .i64 s.ce, .slice a s.C.length c]) ∧ Hid (RowI w' (.slice a s.C.length c) s.C ∧ TO n w0 p s w' ∧ Below w.heap.size w w') := by
  obtain ⟨pm, ym, cv, a, b, c⟩ := h.a
  exact (tychain_r a (by have := h.ok.c; omega)).mono fun _ _ ⟨x, y, he, hh⟩ => ⟨x, y, he, hh.out.1, h.on hh.out.2, hh.out.2⟩
end
end Go.Proofs.Ytiidmiioegdfaaa
