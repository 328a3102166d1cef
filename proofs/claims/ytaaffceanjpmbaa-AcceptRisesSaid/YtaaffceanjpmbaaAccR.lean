/-
  THE REFERENCE's ACCEPTOR: Prepare, Accept, Learn. For an acceptor as it may be, epochs within an int's bounds, chains of at most a million nodes.
-/
import Derived.Test.YtaaffceanjpmbaaAccV
import Derived.Test.YtaaffceanjpmbaaPackBase
import Derived.Test.YtaaffceanjpmbaaChainR
namespace Go.Proofs.Ytaaffceanjpmbaa
open Go.RowKit

/-- What a call of Prepare has made so far: the ballot's box, the vote that it will tell. -/
structure RPT (w : World) (r k : Int) (v : World) : Prop where
  q : BalB v w.heap.size r k
  r : VotB v (w.heap.size + 1) VoteV.zero (.slice none 0 0)
  bel : Below w.heap.size w v
theorem RPT.on {w v v' : World} {r k : Int} (h : RPT w r k v) (hb : Below v.heap.size v v') : RPT w r k v' := ⟨h.q.keep hb h.q.lt, h.r.keep hb h.r.lt, h.bel.trans (hb.mono h.bel.size)⟩

set_option maxRecDepth 100000 in
set_option maxHeartbeats 8000000 in
theorem raprep_r {w : World} {p : Nat} {s : AccV} (hA : Acc 50 w p s) (hk0 : 0 ≤ s.ke) (ep r k : Int) (hep : ep ≤ 9223372036854775807) {s' : AccV} {V : VoteV} {err : Int} (hs : prepS s ep r k = s') (hv : prepV s ep r k = V) (hee : prepE s ep r k = err) :
    Calls Try.prog 19 #[.pointer (some ⟨p, 0, none⟩), .int .i64 ep, .agg #[.int .i64 r, .int .i64 k]] w fun e w' => ∃ a m c, e = .returned (.tuple #[.agg #[.int .i64 V.pr, .int .i64 V.pn, .int .i64 V.ar, .int .i64 V.an, .bool V.has, .int .i64 V.ce, .slice a m c], .int .i64 err]) ∧ Hid (RowI w' (.slice a m c) V.C ∧ Acc 50 w' p s' ∧ Only (· = p) w w') := by
  obtain ⟨kv, cv, hA⟩ := hA
  have hp := hA.b.lt
  obtain ⟨M, hM⟩ : ∃ M, mayV r k = M := ⟨_, rfl⟩
  have HM : Hid (∀ u, Calls Try.prog 42 #[.agg #[.int .i64 r, .int .i64 k]] u fun e w' => e = .returned (.bool M) ∧ Below u.heap.size u w') := fun u => rvmay_r r k u hM
  have HA := Lib.hid hA
  obtain ⟨W, hW⟩ : ∃ W, W = (w.alloc (.cells #[.int .i64 r, .int .i64 k] 30)).alloc (.cells #[.int .i64 0, .int .i64 0, .int .i64 0, .int .i64 0, .bool false, .int .i64 0, .slice none 0 0] 32) := ⟨_, rfl⟩
  have P0 : Hid (RPT w r k W) := by
    rw [hW]
    refine ⟨(BalB.fresh w r k).keep ((Below.refl _ _).alloc (Nat.le_refl _) _) (by simp), ?_, ((Below.refl _ w).alloc (Nat.le_refl _) _).alloc (by simp) _⟩
    have h := VotB.fresh (w.alloc (.cells #[.int .i64 r, .int .i64 k] 30)) VoteV.zero (.slice none 0 0)
    rw [World.size_alloc] at h
    exact h
  obtain ⟨g0, g1, _, _⟩ := P0.out.q.cells
  rw [hW] at g0 g1
  have HW := Lib.hid hW
  clear hA hW
  cases M with
  | false =>
    go_enter Try.func19, Try.ntmps19
    go_wp2_with fail
    rw [← HW.out]
    refine (HM.out _).mono ?_
    rintro e w1 ⟨rfl, B1⟩
    have PK := Lib.hid (P0.out.on B1)
    clear B1 g0 g1 P0 HM
    have hE : prepE s ep r k = 1 := by rw [prepE, if_pos hM]
    obtain rfl : err = 1 := by rw [← hee]; exact hE
    have hS : s' = s := by rw [← hs, prepS, if_neg (by rw [hE]; decide)]
    have hVC : V = VoteV.zero := by rw [← hv, prepV, if_neg (by rw [hE]; decide)]
    subst hVC
    subst hS
    obtain ⟨j0, j1, j2, j3, j4, j5, j6⟩ := PK.out.r.cells
    have f0 := PK.out.r.free 0
    have f1 := PK.out.r.free 1
    have f2 := PK.out.r.free 2
    have f3 := PK.out.r.free 3
    have f4 := PK.out.r.free 4
    have f5 := PK.out.r.free 5
    have f6 := PK.out.r.free 6
    clear hs hv hee hE
    go_wp2
    obtain ⟨m1, m2⟩ := PK.out.r.stored (v' := VoteV.zero) (cv' := .slice none 0 0)
    obtain ⟨e0, e1, e2, e3, e4, e5, e6⟩ := m1.cells
    unfold voteW at e0 e1 e2 e3 e4 e5 e6
    dsimp only [VoteV.zero] at e0 e1 e2 e3 e4 e5 e6
    refine bodyPost_ret (v := .tuple #[.agg #[.int .i64 0, .int .i64 0, .int .i64 0, .int .i64 0, .bool false, .int .i64 0, .slice none 0 0], .int .i64 1]) (by simp [results, Try.results19, go_sem, e0, e1, e2, e3, e4, e5, e6]) rfl ⟨none, 0, 0, rfl, RowI.none _, ?_, ?_⟩
    · exact Acc.beside ⟨kv, cv, HA.out.on PK.out.bel⟩ PK.out.r (by decide) (by have := HA.out.b.lt; omega) m2
    · exact (Only.of PK.out.bel).then m2 (fun x hx e => by omega)
  | true =>
    have hM1 : ¬ mayV r k = false := by rw [hM]; decide
    by_cases h1 : ep ≤ s.ke
    · go_enter Try.func19, Try.ntmps19
      go_wp2_with fail
      rw [← HW.out]
      refine (HM.out _).mono ?_
      rintro e w1 ⟨rfl, B1⟩
      have PK := Lib.hid (P0.out.on B1)
      obtain ⟨_, y1, _⟩ := (HA.out.on PK.out.bel).b.cells
      clear B1 g0 g1 P0 HM
      have hE : prepE s ep r k = 7 := by rw [prepE, if_neg hM1, if_pos h1]
      obtain rfl : err = 7 := by rw [← hee]; exact hE
      have hS : s' = s := by rw [← hs, prepS, if_neg (by rw [hE]; decide)]
      have hVC : V = VoteV.zero := by rw [← hv, prepV, if_neg (by rw [hE]; decide)]
      subst hVC
      subst hS
      obtain ⟨j0, j1, j2, j3, j4, j5, j6⟩ := PK.out.r.cells
      have f0 := PK.out.r.free 0
      have f1 := PK.out.r.free 1
      have f2 := PK.out.r.free 2
      have f3 := PK.out.r.free 3
      have f4 := PK.out.r.free 4
      have f5 := PK.out.r.free 5
      have f6 := PK.out.r.free 6
      clear hs hv hee hE
      go_wp2
      obtain ⟨m1, m2⟩ := PK.out.r.stored (v' := VoteV.zero) (cv' := .slice none 0 0)
      obtain ⟨e0, e1, e2, e3, e4, e5, e6⟩ := m1.cells
      unfold voteW at e0 e1 e2 e3 e4 e5 e6
      dsimp only [VoteV.zero] at e0 e1 e2 e3 e4 e5 e6
      refine bodyPost_ret (v := .tuple #[.agg #[.int .i64 0, .int .i64 0, .int .i64 0, .int .i64 0, .bool false, .int .i64 0, .slice none 0 0], .int .i64 7]) (by simp [results, Try.results19, go_sem, e0, e1, e2, e3, e4, e5, e6]) rfl ⟨none, 0, 0, rfl, RowI.none _, ?_, ?_⟩
      · exact Acc.beside ⟨kv, cv, HA.out.on PK.out.bel⟩ PK.out.r (by decide) (by have := HA.out.b.lt; omega) m2
      · exact (Only.of PK.out.bel).then m2 (fun x hx e => by omega)
    · have hw1 : wrap64 (ep - 1) = ep - 1 := IntWalk.wrap64_in _ (by omega)
      by_cases h2 : ep = s.ke + 1
      · have hb2 : (ep - 1 != s.ke) = false := by rw [h2]; simp
        obtain ⟨D, hD⟩ : ∃ D, D = cmpV r k s.v.pr s.v.pn := ⟨_, rfl⟩
        have HC : Hid (∀ u, Calls Try.prog 25 #[.agg #[.int .i64 r, .int .i64 k], .agg #[.int .i64 s.v.pr, .int .i64 s.v.pn]] u fun e w' => e = .returned (.int .i64 D) ∧ Below u.heap.size u w') := fun u => rvcmp_r r k _ _ u hD.symm
        have hbe : wrap64 (s.ke + 1 - 1) = s.ke := by rw [show s.ke + 1 - 1 = s.ke by omega]; exact IntWalk.wrap64_in _ (by omega)
        by_cases h3 : D < 0
        · have hd3 : decide (D < 0) = true := decide_eq_true h3
          have HE : Hid (prepE s ep r k = 7) := by show _ = _; rw [prepE, if_neg hM1, if_neg h1, if_neg (by omega), if_pos (by rw [← hD]; exact h3)]
          go_enter Try.func19, Try.ntmps19
          go_wp2_with fail
          rw [← HW.out]
          refine (HM.out _).mono ?_
          rintro e w1 ⟨rfl, B1⟩
          have PK1 := Lib.hid (P0.out.on B1)
          obtain ⟨_, y1, _⟩ := (HA.out.on PK1.out.bel).b.cells
          clear B1 g0 g1 P0 HM
          have FX : Hid (∀ u, Below w1.heap.size w1 u → u.cell? ⟨w.heap.size, 0, none⟩ = some (.int .i64 r) ∧ u.cell? ⟨w.heap.size, 1, none⟩ = some (.int .i64 k) ∧ u.cell? ⟨p, 3, none⟩ = some (.int .i64 s.v.pr) ∧ u.cell? ⟨p, 4, none⟩ = some (.int .i64 s.v.pn)) := fun u hu =>
            ⟨(PK1.out.on hu).q.cells.1, (PK1.out.on hu).q.cells.2.1, (HA.out.on (PK1.out.on hu).bel).b.cells.2.2.2.1, (HA.out.on (PK1.out.on hu).bel).b.cells.2.2.2.2.1⟩
          have P0 : Below w1.heap.size w1 w1.drew := (Below.refl _ _).drew
          clear hD hM hM1
          go_wp2_with fail
          refine region_quiet (fun v => Below w1.heap.size w1 v) (by kernel_rfl) (by kernel_rfl) P0 ?_
          repeat (first
            | go_big_quiet_skip
            | (go_big_quiet_want
               (first
                | (refine quiet_run (v := ?_) ?_ ?_; rotate_left; (intro u hu; obtain ⟨c0, c1, c2, c3⟩ := FX.out u hu; go_simp <;> with_reducible rfl); simp only [Act.put, List.setIfInBounds_toArray, List.set_cons_zero, List.set_cons_succ]; go_big_quiet_on)
                | (refine quiet_enter 25 _ ?_ (fun u hu => (HC.out u).mono fun e u' ⟨he, hb⟩ => ⟨he, hu.trans (hb.mono hu.size)⟩) ?_; (focus (intro u; first | (go_simp; done) | (go_simp; with_reducible rfl))); simp only [Act.put, List.setIfInBounds_toArray, List.set_cons_zero, List.set_cons_succ]; go_big_quiet_on))))
          refine wpQuiet_nil ?_
          intro w2 h2'
          have PK := Lib.hid (PK1.out.on h2')
          clear FX h2' P0 PK1 y1
          have hE : prepE s ep r k = 7 := by exact HE.out
          obtain rfl : err = 7 := by rw [← hee]; exact hE
          have hS : s' = s := by rw [← hs, prepS, if_neg (by rw [hE]; decide)]
          have hVC : V = VoteV.zero := by rw [← hv, prepV, if_neg (by rw [hE]; decide)]
          subst hVC
          subst hS
          obtain ⟨j0, j1, j2, j3, j4, j5, j6⟩ := PK.out.r.cells
          have f0 := PK.out.r.free 0
          have f1 := PK.out.r.free 1
          have f2 := PK.out.r.free 2
          have f3 := PK.out.r.free 3
          have f4 := PK.out.r.free 4
          have f5 := PK.out.r.free 5
          have f6 := PK.out.r.free 6
          clear hs hv hee hE
          go_wp2
          obtain ⟨m1, m2⟩ := PK.out.r.stored (v' := VoteV.zero) (cv' := .slice none 0 0)
          obtain ⟨e0, e1, e2, e3, e4, e5, e6⟩ := m1.cells
          unfold voteW at e0 e1 e2 e3 e4 e5 e6
          dsimp only [VoteV.zero] at e0 e1 e2 e3 e4 e5 e6
          refine bodyPost_ret (v := .tuple #[.agg #[.int .i64 0, .int .i64 0, .int .i64 0, .int .i64 0, .bool false, .int .i64 0, .slice none 0 0], .int .i64 7]) (by simp [results, Try.results19, go_sem, e0, e1, e2, e3, e4, e5, e6]) rfl ⟨none, 0, 0, rfl, RowI.none _, ?_, ?_⟩
          · exact Acc.beside ⟨kv, cv, HA.out.on PK.out.bel⟩ PK.out.r (by decide) (by have := HA.out.b.lt; omega) m2
          · exact (Only.of PK.out.bel).then m2 (fun x hx e => by omega)
        · have hd3 : decide (D < 0) = false := decide_eq_false h3
          have HE : Hid (prepE s ep r k = 0) := by show _ = _; rw [prepE, if_neg hM1, if_neg h1, if_neg (by omega), if_neg (by rw [← hD]; exact h3)]
          go_enter Try.func19, Try.ntmps19
          go_wp2_with fail
          rw [← HW.out]
          refine (HM.out _).mono ?_
          rintro e w1 ⟨rfl, B1⟩
          have PK1 := Lib.hid (P0.out.on B1)
          obtain ⟨_, y1, _⟩ := (HA.out.on PK1.out.bel).b.cells
          clear B1 g0 g1 P0 HM
          have FX : Hid (∀ u, Below w1.heap.size w1 u → u.cell? ⟨w.heap.size, 0, none⟩ = some (.int .i64 r) ∧ u.cell? ⟨w.heap.size, 1, none⟩ = some (.int .i64 k) ∧ u.cell? ⟨p, 3, none⟩ = some (.int .i64 s.v.pr) ∧ u.cell? ⟨p, 4, none⟩ = some (.int .i64 s.v.pn)) := fun u hu =>
            ⟨(PK1.out.on hu).q.cells.1, (PK1.out.on hu).q.cells.2.1, (HA.out.on (PK1.out.on hu).bel).b.cells.2.2.2.1, (HA.out.on (PK1.out.on hu).bel).b.cells.2.2.2.2.1⟩
          have P0 : Below w1.heap.size w1 w1.drew := (Below.refl _ _).drew
          clear hD hM hM1
          go_wp2_with fail
          refine region_quiet (fun v => Below w1.heap.size w1 v) (by kernel_rfl) (by kernel_rfl) P0 ?_
          repeat (first
            | go_big_quiet_skip
            | (go_big_quiet_want
               (first
                | (refine quiet_run (v := ?_) ?_ ?_; rotate_left; (intro u hu; obtain ⟨c0, c1, c2, c3⟩ := FX.out u hu; go_simp <;> with_reducible rfl); simp only [Act.put, List.setIfInBounds_toArray, List.set_cons_zero, List.set_cons_succ]; go_big_quiet_on)
                | (refine quiet_enter 25 _ ?_ (fun u hu => (HC.out u).mono fun e u' ⟨he, hb⟩ => ⟨he, hu.trans (hb.mono hu.size)⟩) ?_; (focus (intro u; first | (go_simp; done) | (go_simp; with_reducible rfl))); simp only [Act.put, List.setIfInBounds_toArray, List.set_cons_zero, List.set_cons_succ]; go_big_quiet_on))))
          refine wpQuiet_nil ?_
          intro w2 h2'
          have PK := Lib.hid (PK1.out.on h2')
          clear FX h2' P0 PK1 y1
          obtain rfl : err = 0 := by rw [← hee]; exact HE.out
          have hS : s' = ⟨s.n, s.ke, s.K, ⟨r, k, s.v.ar, s.v.an, s.v.has, s.v.ce, s.v.C⟩⟩ := by rw [← hs, prepS, if_pos HE.out]
          have hVC : V = ⟨r, k, s.v.ar, s.v.an, s.v.has, s.v.ce, s.v.C⟩ := by rw [← hv, prepV, if_pos HE.out, hs, hS]
          subst hVC
          subst hS
          obtain ⟨ca, cc, rfl⟩ := HA.out.c.shape
          have A6 := HA.out.on PK.out.bel
          obtain ⟨k1, k2⟩ := A6.b.promised r k
          have K1 := Lib.hid k1
          have K2 := Lib.hid k2
          have A7 := Lib.hid A6
          obtain ⟨g0, g1, _, _⟩ := PK.out.q.cells
          obtain ⟨_, _, _, y3, y4, y5, y6, y7, y8, y9⟩ := A6.b.cells
          have z3 := A6.b.free 3
          have z4 := A6.b.free 4
          have R7 := Lib.hid (PK.out.r.beside A6.b (by decide) k2)
          have hpw : p ≠ w.heap.size + 1 := by omega
          obtain ⟨j0, j1, j2, j3, j4, j5, j6⟩ := R7.out.cells
          have f0 := R7.out.free 0
          have f1 := R7.out.free 1
          have f2 := R7.out.free 2
          have f3 := R7.out.free 3
          have f4 := R7.out.free 4
          have f5 := R7.out.free 5
          have f6 := R7.out.free 6
          clear k1 k2 A6 hs hv hee
          go_wp2
          obtain ⟨m1, m2⟩ := R7.out.stored (v' := ⟨r, k, s.v.ar, s.v.an, s.v.has, s.v.ce, s.v.C⟩) (cv' := .slice ca s.v.C.length cc)
          obtain ⟨e0, e1, e2, e3, e4, e5, e6⟩ := m1.cells
          unfold voteW at e0 e1 e2 e3 e4 e5 e6
          dsimp only at e0 e1 e2 e3 e4 e5 e6
          refine bodyPost_ret (v := .tuple #[.agg #[.int .i64 r, .int .i64 k, .int .i64 s.v.ar, .int .i64 s.v.an, .bool s.v.has, .int .i64 s.v.ce, .slice ca s.v.C.length cc], .int .i64 0]) (by simp [results, Try.results19, go_sem, e0, e1, e2, e3, e4, e5, e6]) rfl ⟨ca, _, cc, rfl, (A7.out.c.beside A7.out.b (by decide) K2.out).beside R7.out (by decide) m2, ?_, ?_⟩
          · exact Acc.beside ⟨kv, _, K1.out, A7.out.k.beside A7.out.b (by decide) K2.out, A7.out.c.beside A7.out.b (by decide) K2.out⟩ R7.out (by decide) hpw m2
          · exact ((Only.of PK.out.bel).then K2.out (fun x _ hx => hx)).then m2 (fun x hx e => by omega)
      · have hb2 : (ep - 1 != s.ke) = true := by simp; omega
        go_enter Try.func19, Try.ntmps19
        go_wp2_with fail
        rw [← HW.out]
        refine (HM.out _).mono ?_
        rintro e w1 ⟨rfl, B1⟩
        have PK := Lib.hid (P0.out.on B1)
        obtain ⟨_, y1, _⟩ := (HA.out.on PK.out.bel).b.cells
        clear B1 g0 g1 P0 HM
        have hE : prepE s ep r k = 4 := by rw [prepE, if_neg hM1, if_neg (by omega), if_pos h2]
        obtain rfl : err = 4 := by rw [← hee]; exact hE
        have hS : s' = s := by rw [← hs, prepS, if_neg (by rw [hE]; decide)]
        have hVC : V = VoteV.zero := by rw [← hv, prepV, if_neg (by rw [hE]; decide)]
        subst hVC
        subst hS
        obtain ⟨j0, j1, j2, j3, j4, j5, j6⟩ := PK.out.r.cells
        have f0 := PK.out.r.free 0
        have f1 := PK.out.r.free 1
        have f2 := PK.out.r.free 2
        have f3 := PK.out.r.free 3
        have f4 := PK.out.r.free 4
        have f5 := PK.out.r.free 5
        have f6 := PK.out.r.free 6
        clear hs hv hee hE
        go_wp2
        obtain ⟨m1, m2⟩ := PK.out.r.stored (v' := VoteV.zero) (cv' := .slice none 0 0)
        obtain ⟨e0, e1, e2, e3, e4, e5, e6⟩ := m1.cells
        unfold voteW at e0 e1 e2 e3 e4 e5 e6
        dsimp only [VoteV.zero] at e0 e1 e2 e3 e4 e5 e6
        refine bodyPost_ret (v := .tuple #[.agg #[.int .i64 0, .int .i64 0, .int .i64 0, .int .i64 0, .bool false, .int .i64 0, .slice none 0 0], .int .i64 4]) (by simp [results, Try.results19, go_sem, e0, e1, e2, e3, e4, e5, e6]) rfl ⟨none, 0, 0, rfl, RowI.none _, ?_, ?_⟩
        · exact Acc.beside ⟨kv, cv, HA.out.on PK.out.bel⟩ PK.out.r (by decide) (by have := HA.out.b.lt; omega) m2
        · exact (Only.of PK.out.bel).then m2 (fun x hx e => by omega)

/-- What a call of Learn has made so far: the chain's box. -/
structure RLT (w : World) (ec : Int) (cv : Value) (v : World) : Prop where
  c : ChT v w.heap.size ec cv
  bel : Below w.heap.size w v
theorem RLT.on {w v v' : World} {ec : Int} {cv : Value} (h : RLT w ec cv v) (hb : Below v.heap.size v v') : RLT w ec cv v' := ⟨h.c.keep hb h.c.lt, h.bel.trans (hb.mono h.bel.size)⟩

set_option maxRecDepth 100000 in
set_option maxHeartbeats 8000000 in
theorem ralrn_r {w : World} {p : Nat} {s : AccV} (hA : Acc 50 w p s) (ec : Int) (vv : Value) (L : List Int) (B : Nat) (hI : Ints w B vv L) (hB : B ≤ w.heap.size) (hlim : L.length ≤ 1000000) {s' : AccV} {err : Int} (hs : lrnS s ec L = s') (hee : lrnE s ec L = err) :
    Calls Try.prog 22 #[.pointer (some ⟨p, 0, none⟩), .agg #[.int .i64 ec, vv]] w fun e w' => e = .returned (.int .i64 err) ∧ Hid (Acc 50 w' p s' ∧ Only (· = p) w w') := by
  obtain ⟨kv, cv, hA⟩ := hA
  obtain ⟨a0, c0, rfl⟩ : ∃ a c, vv = .slice a L.length c := by obtain ⟨a, c, h, _⟩ := hI; exact ⟨a, c, h⟩
  obtain ⟨m, hm⟩ : ∃ m, m = L.length := ⟨_, rfl⟩
  have hp := hA.b.lt
  obtain ⟨M, hM⟩ : ∃ M, decide (ChainV.may ⟨ec, L⟩) = M := ⟨_, rfl⟩
  obtain ⟨Y, hY⟩ : ∃ Y, decide (∀ x ∈ L, x < s.n) = Y := ⟨_, rfl⟩
  have HM : Hid (∀ u, Below w.heap.size w u → Calls Try.prog 43 #[.agg #[.int .i64 ec, .slice a0 m c0]] u fun e w' => e = .returned (.bool M) ∧ Below u.heap.size u w') := fun u hu => by rw [hm]; exact refmaychain_r ec _ L B u (hI.keep (hu.mono hB)) (Nat.le_trans hB hu.size) M hM.symm
  have HBL : Hid (∀ u, Below w.heap.size w u → Calls Try.prog 44 #[.agg #[.int .i64 ec, .slice a0 m c0], .int .i64 s.n] u fun e w' => e = .returned (.bool Y) ∧ Below u.heap.size u w') := fun u hu => by rw [hm]; exact rhbelow_r ec _ L s.n B u (hI.keep (hu.mono hB)) (Nat.le_trans hB hu.size) hlim hY
  have HSR : Hid (∀ u, Below w.heap.size w u → Src Try.prog 1 22 (.slice a0 m c0) m (intCells L) u) := fun u hu => by rw [hm]; exact csrc (hI.keep (hu.mono hB))
  have HA := Lib.hid hA
  rw [← hm]
  obtain ⟨W, hW⟩ : ∃ W, W = w.alloc (.cells #[.int .i64 ec, .slice a0 m c0] 28) := ⟨_, rfl⟩
  have PK : Hid (RLT w ec (.slice a0 m c0) W) := by
    show RLT _ _ _ _
    rw [hW]
    exact ⟨ChT.fresh w _ _, (Below.refl _ w).alloc (Nat.le_refl _) _⟩
  have HW := Lib.hid hW
  clear hA hI hW
  have hml : m ≤ 1000000 := by omega
  have HMM := Lib.hid hM
  have HYY := Lib.hid hY
  have hm1 := Lib.hid hm
  clear hM hY hm
  have FX : Hid (∀ u, Below W.heap.size W u → u.cell? ⟨w.heap.size, 0, none⟩ = some (.int .i64 ec) ∧ u.cell? ⟨w.heap.size, 1, none⟩ = some (.slice a0 m c0) ∧ u.cell? ⟨p, 0, none⟩ = some (.int .i64 s.n) ∧ u.cell? ⟨p, 1, none⟩ = some (.int .i64 s.ke)) := fun u hu =>
    ⟨(PK.out.on hu).c.cells.1, (PK.out.on hu).c.cells.2.1, (HA.out.on (PK.out.on hu).bel).b.cells.1, (HA.out.on (PK.out.on hu).bel).b.cells.2.1⟩
  have P0 : Below W.heap.size W W.drew := (Below.refl _ _).drew
  cases M with
  | false =>
    have hno : ¬ ChainV.may ⟨ec, L⟩ := of_decide_eq_false HMM.out
    go_enter Try.func22, Try.ntmps22
    go_wp2_with fail
    rw [← HW.out]
    refine region_quiet (fun v => Below W.heap.size W v) (by kernel_rfl) (by kernel_rfl) P0 ?_
    repeat (first
      | go_big_quiet_skip
      | (go_big_quiet_want
         (first
          | (refine quiet_run (v := ?_) ?_ ?_; rotate_left; (intro u hu; obtain ⟨c0, c1, c2, c3⟩ := FX.out u hu; go_simp <;> with_reducible rfl); simp only [Act.put, List.setIfInBounds_toArray, List.set_cons_zero, List.set_cons_succ]; go_big_quiet_on)
          | (refine quiet_enter 43 _ ?_ (fun u hu => (HM.out u (PK.out.on hu).bel).mono fun e u' ⟨he, hb⟩ => ⟨he, hu.trans (hb.mono hu.size)⟩) ?_; (focus (intro u; first | (go_simp; done) | (go_simp; with_reducible rfl))); simp only [Act.put, List.setIfInBounds_toArray, List.set_cons_zero, List.set_cons_succ]; go_big_quiet_on))))
    refine wpQuiet_nil ?_
    intro w4 h4
    have PK2 := Lib.hid (PK.out.on h4)
    clear FX P0 PK h4
    have PK := PK2
    clear PK2
    have hE : lrnE s ec L = 1 := by rw [lrnE, if_pos (fun h => hno h.1)]
    obtain rfl : err = 1 := by rw [← hee]; exact hE
    have hS : s' = s := by rw [← hs, lrnS, if_neg (by rw [hE]; decide)]
    subst hS
    clear hs hee hE
    go_wp2
    go_returns
    exact ⟨rfl, ⟨kv, cv, HA.out.on PK.out.bel⟩, .of PK.out.bel⟩
  | true =>
    cases Y with
    | false =>
      have hno : ¬ ∀ x ∈ L, x < s.n := of_decide_eq_false HYY.out
      go_enter Try.func22, Try.ntmps22
      go_wp2_with fail
      rw [← HW.out]
      refine region_quiet (fun v => Below W.heap.size W v) (by kernel_rfl) (by kernel_rfl) P0 ?_
      repeat (first
        | go_big_quiet_skip
        | (go_big_quiet_want
           (first
            | (refine quiet_run (v := ?_) ?_ ?_; rotate_left; (intro u hu; obtain ⟨c0, c1, c2, c3⟩ := FX.out u hu; go_simp <;> with_reducible rfl); simp only [Act.put, List.setIfInBounds_toArray, List.set_cons_zero, List.set_cons_succ]; go_big_quiet_on)
            | (refine quiet_enter 43 _ ?_ (fun u hu => (HM.out u (PK.out.on hu).bel).mono fun e u' ⟨he, hb⟩ => ⟨he, hu.trans (hb.mono hu.size)⟩) ?_; (focus (intro u; first | (go_simp; done) | (go_simp; with_reducible rfl))); simp only [Act.put, List.setIfInBounds_toArray, List.set_cons_zero, List.set_cons_succ]; go_big_quiet_on)
            | (refine quiet_enter 44 _ ?_ (fun u hu => (HBL.out u (PK.out.on hu).bel).mono fun e u' ⟨he, hb⟩ => ⟨he, hu.trans (hb.mono hu.size)⟩) ?_; (focus (intro u; first | (go_simp; done) | (go_simp; with_reducible rfl))); simp only [Act.put, List.setIfInBounds_toArray, List.set_cons_zero, List.set_cons_succ]; go_big_quiet_on))))
      refine wpQuiet_nil ?_
      intro w4 h4
      have PK2 := Lib.hid (PK.out.on h4)
      clear FX P0 PK h4
      have PK := PK2
      clear PK2
      have hE : lrnE s ec L = 1 := by rw [lrnE, if_pos (fun h => hno h.2)]
      obtain rfl : err = 1 := by rw [← hee]; exact hE
      have hS : s' = s := by rw [← hs, lrnS, if_neg (by rw [hE]; decide)]
      subst hS
      clear hs hee hE
      go_wp2
      go_returns
      exact ⟨rfl, ⟨kv, cv, HA.out.on PK.out.bel⟩, .of PK.out.bel⟩
    | true =>
      have hyes : ChainV.may ⟨ec, L⟩ ∧ ∀ x ∈ L, x < s.n := ⟨of_decide_eq_true HMM.out, of_decide_eq_true HYY.out⟩
      by_cases hle : ec ≤ s.ke
      · have hb : decide (ec ≤ s.ke) = true := decide_eq_true hle
        have HLE := Lib.hid hle
        clear hle
        go_enter Try.func22, Try.ntmps22
        go_wp2_with fail
        rw [← HW.out]
        refine region_quiet (fun v => Below W.heap.size W v) (by kernel_rfl) (by kernel_rfl) P0 ?_
        repeat (first
          | go_big_quiet_skip
          | (go_big_quiet_want
             (first
              | (refine quiet_run (v := ?_) ?_ ?_; rotate_left; (intro u hu; obtain ⟨c0, c1, c2, c3⟩ := FX.out u hu; go_simp <;> with_reducible rfl); simp only [Act.put, List.setIfInBounds_toArray, List.set_cons_zero, List.set_cons_succ]; go_big_quiet_on)
              | (refine quiet_enter 43 _ ?_ (fun u hu => (HM.out u (PK.out.on hu).bel).mono fun e u' ⟨he, hb⟩ => ⟨he, hu.trans (hb.mono hu.size)⟩) ?_; (focus (intro u; first | (go_simp; done) | (go_simp; with_reducible rfl))); simp only [Act.put, List.setIfInBounds_toArray, List.set_cons_zero, List.set_cons_succ]; go_big_quiet_on)
              | (refine quiet_enter 44 _ ?_ (fun u hu => (HBL.out u (PK.out.on hu).bel).mono fun e u' ⟨he, hb⟩ => ⟨he, hu.trans (hb.mono hu.size)⟩) ?_; (focus (intro u; first | (go_simp; done) | (go_simp; with_reducible rfl))); simp only [Act.put, List.setIfInBounds_toArray, List.set_cons_zero, List.set_cons_succ]; go_big_quiet_on))))
        refine wpQuiet_nil ?_
        intro w3 h4
        have PK2 := Lib.hid (PK.out.on h4)
        clear FX P0 PK h4
        have PK := PK2
        clear PK2
        have FX : Hid (∀ u, Below w3.heap.size w3 u → u.cell? ⟨w.heap.size, 0, none⟩ = some (.int .i64 ec) ∧ u.cell? ⟨w.heap.size, 1, none⟩ = some (.slice a0 m c0) ∧ u.cell? ⟨p, 0, none⟩ = some (.int .i64 s.n) ∧ u.cell? ⟨p, 1, none⟩ = some (.int .i64 s.ke)) := fun u hu =>
          ⟨(PK.out.on hu).c.cells.1, (PK.out.on hu).c.cells.2.1, (HA.out.on (PK.out.on hu).bel).b.cells.1, (HA.out.on (PK.out.on hu).bel).b.cells.2.1⟩
        have P0 : Below w3.heap.size w3 w3.drew := (Below.refl _ _).drew
        go_wp2_with fail
        refine region_quiet (fun v => Below w3.heap.size w3 v) (by kernel_rfl) (by kernel_rfl) P0 ?_
        repeat (first
          | go_big_quiet_skip
          | (go_big_quiet_want
             (first
              | (refine quiet_run (v := ?_) ?_ ?_; rotate_left; (intro u hu; obtain ⟨c0, c1, c2, c3⟩ := FX.out u hu; go_simp <;> with_reducible rfl); simp only [Act.put, List.setIfInBounds_toArray, List.set_cons_zero, List.set_cons_succ]; go_big_quiet_on))))
        refine wpQuiet_nil ?_
        intro w4 h4
        have PK2 := Lib.hid (PK.out.on h4)
        clear FX P0 PK h4
        have PK := PK2
        clear PK2
        have hE : lrnE s ec L = 7 := by rw [lrnE, if_neg (fun h => h hyes), if_pos HLE.out]
        obtain rfl : err = 7 := by rw [← hee]; exact hE
        have hS : s' = s := by rw [← hs, lrnS, if_neg (by rw [hE]; decide)]
        subst hS
        clear hs hee hE
        go_wp2
        go_returns
        exact ⟨rfl, ⟨kv, cv, HA.out.on PK.out.bel⟩, .of PK.out.bel⟩
      · have hb : decide (ec ≤ s.ke) = false := decide_eq_false hle
        have HLE := Lib.hid hle
        clear hle
        have hE : lrnE s ec L = 0 := by rw [lrnE, if_neg (fun h => h hyes), if_neg HLE.out]
        obtain rfl : err = 0 := by rw [← hee]; exact hE
        have hS : s' = ⟨s.n, ec, L, VoteV.zero⟩ := by rw [← hs, lrnS, if_pos hE]
        subst hS
        clear hs hee hE
        go_enter Try.func22, Try.ntmps22
        go_wp2_with fail
        rw [← HW.out]
        refine region_quiet (fun v => Below W.heap.size W v) (by kernel_rfl) (by kernel_rfl) P0 ?_
        repeat (first
          | go_big_quiet_skip
          | (go_big_quiet_want
             (first
              | (refine quiet_run (v := ?_) ?_ ?_; rotate_left; (intro u hu; obtain ⟨c0, c1, c2, c3⟩ := FX.out u hu; go_simp <;> with_reducible rfl); simp only [Act.put, List.setIfInBounds_toArray, List.set_cons_zero, List.set_cons_succ]; go_big_quiet_on)
              | (refine quiet_enter 43 _ ?_ (fun u hu => (HM.out u (PK.out.on hu).bel).mono fun e u' ⟨he, hb⟩ => ⟨he, hu.trans (hb.mono hu.size)⟩) ?_; (focus (intro u; first | (go_simp; done) | (go_simp; with_reducible rfl))); simp only [Act.put, List.setIfInBounds_toArray, List.set_cons_zero, List.set_cons_succ]; go_big_quiet_on)
              | (refine quiet_enter 44 _ ?_ (fun u hu => (HBL.out u (PK.out.on hu).bel).mono fun e u' ⟨he, hb⟩ => ⟨he, hu.trans (hb.mono hu.size)⟩) ?_; (focus (intro u; first | (go_simp; done) | (go_simp; with_reducible rfl))); simp only [Act.put, List.setIfInBounds_toArray, List.set_cons_zero, List.set_cons_succ]; go_big_quiet_on))))
        refine wpQuiet_nil ?_
        intro w3 h4
        have PK2 := Lib.hid (PK.out.on h4)
        clear FX P0 PK h4
        have PK := PK2
        clear PK2
        have FX : Hid (∀ u, Below w3.heap.size w3 u → u.cell? ⟨w.heap.size, 0, none⟩ = some (.int .i64 ec) ∧ u.cell? ⟨w.heap.size, 1, none⟩ = some (.slice a0 m c0) ∧ u.cell? ⟨p, 0, none⟩ = some (.int .i64 s.n) ∧ u.cell? ⟨p, 1, none⟩ = some (.int .i64 s.ke)) := fun u hu =>
          ⟨(PK.out.on hu).c.cells.1, (PK.out.on hu).c.cells.2.1, (HA.out.on (PK.out.on hu).bel).b.cells.1, (HA.out.on (PK.out.on hu).bel).b.cells.2.1⟩
        have P0 : Below w3.heap.size w3 w3.drew := (Below.refl _ _).drew
        go_wp2_with fail
        refine region_quiet (fun v => Below w3.heap.size w3 v) (by kernel_rfl) (by kernel_rfl) P0 ?_
        repeat (first
          | go_big_quiet_skip
          | (go_big_quiet_want
             (first
              | (refine quiet_run (v := ?_) ?_ ?_; rotate_left; (intro u hu; obtain ⟨c0, c1, c2, c3⟩ := FX.out u hu; go_simp <;> with_reducible rfl); simp only [Act.put, List.setIfInBounds_toArray, List.set_cons_zero, List.set_cons_succ]; go_big_quiet_on))))
        refine wpQuiet_nil ?_
        intro w4 h4
        have PK2 := Lib.hid (PK.out.on h4)
        clear FX P0 PK h4
        have PK := PK2
        clear PK2
        go_wp2_with fail
        obtain ⟨i0, hi, hz0, hz1, hz2⟩ := info_parts info_int12
        have HMADE : Hid ((w4.alloc (.cells #[] 3)).drew.ownsRow w4.heap.size 3 1 (.slice (some ⟨w4.heap.size, 0, none⟩) 0 0) 0 []) := rowOn (World.ownsRow_made w4 #[] 0 (Nat.le_refl _) (Nat.zero_le _) rfl) ((Below.refl _ _).drew)
        have HSRC : Hid (Src Try.prog 1 22 (.slice a0 m c0) m (intCells L) (w4.alloc (.cells #[] 3)).drew) := HSR.out _ (PK.out.bel.trans (Below.mono (Below.drew ((Below.refl _ _).alloc (Nat.le_refl _) _)) PK.out.bel.size))
        have HS : Hid (∀ u, Below w4.heap.size w4 u → (fun u => u.cell? ⟨w.heap.size, 0, none⟩ = some (.int .i64 ec) ∧ u.cell? ⟨w.heap.size, 1, none⟩ = some (.slice a0 m c0)) u) := fun u hu => ⟨(PK.out.on hu).c.cells.1, (PK.out.on hu).c.cells.2.1⟩
        refine wp_region_held_drew (S := (fun u => u.cell? ⟨w.heap.size, 0, none⟩ = some (.int .i64 ec) ∧ u.cell? ⟨w.heap.size, 1, none⟩ = some (.slice a0 m c0))) (by kernel_rfl) (HS.out _ (Below.drew (Below.refl _ _))) (fun hHeld => ?_)
        first
          | (refine held_take 0 27 (v := ?_) rfl rfl (by kernel_rfl) (by kernel_rfl) (by kernel_rfl) (fun _ _ _ h => h) (by assumption) (by rfl) ?_ ?_; rotate_left; (focus (intro w hSw; obtain ⟨hS0, hS1⟩ := hSw; go_simp <;> with_reducible rfl)))
          | refine held_pass 0 27 rfl rfl (by kernel_rfl) (by kernel_rfl) (by kernel_rfl) (fun _ _ _ h => h) (by assumption) (by rfl) ?_
        simp only [Act.put, List.setIfInBounds_toArray, List.set_cons_zero, List.set_cons_succ]
        first
          | (refine held_take 1 28 (v := ?_) rfl rfl (by kernel_rfl) (by kernel_rfl) (by kernel_rfl) (fun _ _ _ h => h) (by assumption) (by rfl) ?_ ?_; rotate_left; (focus (intro w hSw; obtain ⟨hS0, hS1⟩ := hSw; go_simp <;> with_reducible rfl)))
          | refine held_pass 1 28 rfl rfl (by kernel_rfl) (by kernel_rfl) (by kernel_rfl) (fun _ _ _ h => h) (by assumption) (by rfl) ?_
        simp only [Act.put, List.setIfInBounds_toArray, List.set_cons_zero, List.set_cons_succ]
        first
          | (refine held_take 2 29 (v := ?_) rfl rfl (by kernel_rfl) (by kernel_rfl) (by kernel_rfl) (fun _ _ _ h => h) (by assumption) (by rfl) ?_ ?_; rotate_left; (focus (intro w hSw; obtain ⟨hS0, hS1⟩ := hSw; go_simp <;> with_reducible rfl)))
          | refine held_pass 2 29 rfl rfl (by kernel_rfl) (by kernel_rfl) (by kernel_rfl) (fun _ _ _ h => h) (by assumption) (by rfl) ?_
        simp only [Act.put, List.setIfInBounds_toArray, List.set_cons_zero, List.set_cons_succ]
        first
          | (refine held_take 4 31 (v := ?_) rfl rfl (by kernel_rfl) (by kernel_rfl) (by kernel_rfl) (fun _ _ _ h => h) (by assumption) (by rfl) ?_ ?_; rotate_left; (focus (intro w hSw; obtain ⟨hS0, hS1⟩ := hSw; go_simp <;> with_reducible rfl)))
          | refine held_pass 4 31 rfl rfl (by kernel_rfl) (by kernel_rfl) (by kernel_rfl) (fun _ _ _ h => h) (by assumption) (by rfl) ?_
        simp only [Act.put, List.setIfInBounds_toArray, List.set_cons_zero, List.set_cons_succ]
        first
          | (refine held_take 5 32 (v := ?_) rfl rfl (by kernel_rfl) (by kernel_rfl) (by kernel_rfl) (fun _ _ _ h => h) (by assumption) (by rfl) ?_ ?_; rotate_left; (focus (intro w hSw; obtain ⟨hS0, hS1⟩ := hSw; go_simp <;> with_reducible rfl)))
          | refine held_pass 5 32 rfl rfl (by kernel_rfl) (by kernel_rfl) (by kernel_rfl) (fun _ _ _ h => h) (by assumption) (by rfl) ?_
        simp only [Act.put, List.setIfInBounds_toArray, List.set_cons_zero, List.set_cons_succ]
        refine wpAnyH_ready (rs := [3]) (by kernel_rfl) (by simp) (AllReadyH.cons rfl (fun K hK => ?_) AllReadyH.nil)
        try simp only [Go.wp_at_succ, Go.wp_at_zero]
        go_simp
        refine hK.out _ _ (HS.out _ ?_) (fun hHeld => ?_)
        · go_grown
        clear hK K
        try simp only [Act.put, List.setIfInBounds_toArray, List.set_cons_zero, List.set_cons_succ]
        refine wpAnyH_ready (rs := [6]) (by kernel_rfl) (by simp) (AllReadyH.cons rfl (fun K hK => ?_) AllReadyH.nil)
        refine stepApp rfl (.tmp 30) (.tmp 32) 22 22 rfl w4.heap.size 3 i0 (.int .i64 0) 1 8 Try.underlying22 hi hz0 hz1 hz2 rfl _ _ _ rfl HMADE.out _ m (intCells L) rfl HSRC.out ?c3 ?c4 ?c5 ?_
        case c3 => unfold maxLen; omega
        case c4 => omega
        case c5 => simp
        intro v2 w2 O2 G2
        obtain ⟨a2, c2, rfl⟩ := own_shape O2
        have B2 : Below w4.heap.size w4 w2 := ((Below.drew ((Below.refl _ _).alloc (Nat.le_refl _) _))).grown G2 (by simp) (fun k hk => by cases hk; exact Nat.le_refl _)
        have HB2 := Lib.hid B2
        have O2x := Lib.hid (RowI.own (L := L) (by simpa using O2))
        clear O2 G2 B2
        refine hK.out _ _ (HS.out _ HB2.out) (fun hHeld => ?_)
        clear hK K
        try simp only [Act.put, List.setIfInBounds_toArray]
        first
          | (refine held_take 7 34 (v := ?_) rfl rfl (by kernel_rfl) (by kernel_rfl) (by kernel_rfl) (fun _ _ _ h => h) (by assumption) (by rfl) ?_ ?_; rotate_left; (focus (intro w hSw; obtain ⟨hS0, hS1⟩ := hSw; go_simp <;> with_reducible rfl)))
          | refine held_pass 7 34 rfl rfl (by kernel_rfl) (by kernel_rfl) (by kernel_rfl) (fun _ _ _ h => h) (by assumption) (by rfl) ?_
        simp only [Act.put]
        first
          | (refine held_take 8 35 (v := ?_) rfl rfl (by kernel_rfl) (by kernel_rfl) (by kernel_rfl) (fun _ _ _ h => h) (by assumption) (by rfl) ?_ ?_; rotate_left; (focus (intro w hSw; obtain ⟨hS0, hS1⟩ := hSw; go_simp <;> with_reducible rfl)))
          | refine held_pass 8 35 rfl rfl (by kernel_rfl) (by kernel_rfl) (by kernel_rfl) (fun _ _ _ h => h) (by assumption) (by rfl) ?_
        simp only [Act.put]
        first
          | (refine held_take 9 36 (v := ?_) rfl rfl (by kernel_rfl) (by kernel_rfl) (by kernel_rfl) (fun _ _ _ h => h) (by assumption) (by rfl) ?_ ?_; rotate_left; (focus (intro w hSw; obtain ⟨hS0, hS1⟩ := hSw; go_simp <;> with_reducible rfl)))
          | refine held_pass 9 36 rfl rfl (by kernel_rfl) (by kernel_rfl) (by kernel_rfl) (fun _ _ _ h => h) (by assumption) (by rfl) ?_
        simp only [Act.put]
        have a2' := HA.out.on (PK.out.on HB2.out).bel
        obtain ⟨_, y1, y2, y3, y4, y5, y6, y7, y8, y9⟩ := a2'.b.cells
        have z1 := a2'.b.free 1
        have z2 := a2'.b.free 2
        have z3 := a2'.b.free 3
        have z4 := a2'.b.free 4
        have z5 := a2'.b.free 5
        have z6 := a2'.b.free 6
        have z7 := a2'.b.free 7
        have z8 := a2'.b.free 8
        have z9 := a2'.b.free 9
        obtain ⟨k1, k2⟩ := a2'.b.known (kv' := .slice a2 m c2) ec L
        have A2 := Lib.hid a2'
        have K1 := Lib.hid k1
        have K2 := Lib.hid k2
        have P2 := Lib.hid (PK.out.on HB2.out)
        have hlt := HA.out.b.lt
        have KS : Hid ((fun u => u.cell? ⟨w.heap.size, 0, none⟩ = some (.int .i64 ec) ∧ u.cell? ⟨w.heap.size, 1, none⟩ = some (.slice a0 m c0)) (chainW w2 p 1 ec (.slice a2 m c2))) := ⟨(k2.cell (p := ⟨w.heap.size, 0, none⟩) P2.out.c.lt (by simp; omega)).trans P2.out.c.cells.1, (k2.cell (p := ⟨w.heap.size, 1, none⟩) P2.out.c.lt (by simp; omega)).trans P2.out.c.cells.2.1⟩
        clear k1 k2 a2'
        refine wpAnyH_ready (rs := [10]) (by kernel_rfl) (by simp) (AllReadyH.cons rfl (fun K hK => ?_) AllReadyH.nil)
        try simp only [Go.wp_at_succ, Go.wp_at_zero]
        go_simp
        refine hK.out _ _ ?_ (fun hHeld => ?_)
        · exact KS.out
        clear hK K
        try simp only [Act.put, List.setIfInBounds_toArray, List.set_cons_zero, List.set_cons_succ]
        refine wpAnyH_done (by kernel_rfl) ?_ _
        obtain ⟨x1, x2⟩ := K1.out.voted (cv' := .slice none 0 0) VoteV.zero
        have X1 := Lib.hid x1
        have X2 := Lib.hid x2
        clear x1 x2
        obtain ⟨_, q1, q2, q3, q4, q5, q6, q7, q8, q9⟩ := K1.out.cells
        have t3 := K1.out.free 3
        have t4 := K1.out.free 4
        have t5 := K1.out.free 5
        have t6 := K1.out.free 6
        have t7 := K1.out.free 7
        have t8 := K1.out.free 8
        have t9 := K1.out.free 9
        unfold chainW at q1 q2 q3 q4 q5 q6 q7 q8 q9 t3 t4 t5 t6 t7 t8 t9
        go_wp2
        go_returns
        exact ⟨rfl, ⟨_, _, X1.out, (O2x.out.beside A2.out.b (by decide) K2.out).beside K1.out (by decide) X2.out, RowI.none _⟩, ((Only.of P2.out.bel).then K2.out (fun x _ hx => hx)).trans X2.out⟩

/-- What a call of Accept has made so far: the chain's and the ballot's boxes. -/
structure RCT (w : World) (ec : Int) (cv : Value) (r k : Int) (v : World) : Prop where
  c : ChT v w.heap.size ec cv
  q : BalB v (w.heap.size + 1) r k
  bel : Below w.heap.size w v
theorem RCT.on {w v v' : World} {ec r k : Int} {cv : Value} (h : RCT w ec cv r k v) (hb : Below v.heap.size v v') : RCT w ec cv r k v' := ⟨h.c.keep hb h.c.lt, h.q.keep hb h.q.lt, h.bel.trans (hb.mono h.bel.size)⟩

set_option maxRecDepth 100000 in
set_option maxHeartbeats 16000000 in
theorem raacc_r {w : World} {p : Nat} {s : AccV} (hA : Acc 50 w p s) (hk0 : 0 ≤ s.ke) (hK : s.K.length ≤ 1000000) (ec : Int) (hec : ec ≤ 9223372036854775807) (vv : Value) (L : List Int) (B : Nat) (hI : Ints w B vv L) (hB : B ≤ w.heap.size) (hlim : L.length ≤ 1000000) (r k : Int) (veto : Bool) {s' : AccV} {err : Int} (hs : accS s ec L r k veto = s') (hee : accE s ec L r k veto = err) :
    Calls Try.prog 21 #[.pointer (some ⟨p, 0, none⟩), .agg #[.int .i64 ec, vv], .agg #[.int .i64 r, .int .i64 k], .bool veto] w fun e w' => e = .returned (.int .i64 err) ∧ Hid (Acc 50 w' p s' ∧ Only (· = p) w w') := by
  obtain ⟨kv, cv, hA⟩ := hA
  obtain ⟨a0, c0, rfl⟩ : ∃ a c, vv = .slice a L.length c := by obtain ⟨a, c, h, _⟩ := hI; exact ⟨a, c, h⟩
  obtain ⟨m, hm⟩ : ∃ m, m = L.length := ⟨_, rfl⟩
  have hp := hA.b.lt
  obtain ⟨M, hM⟩ : ∃ M, mayV r k = M := ⟨_, rfl⟩
  obtain ⟨Y, hY⟩ : ∃ Y, decide (ChainV.may ⟨ec, L⟩) = Y := ⟨_, rfl⟩
  obtain ⟨X, hX⟩ : ∃ X, decide (nextC s.ke s.K ec L s.n) = X := ⟨_, rfl⟩
  obtain ⟨D, hD⟩ : ∃ D, cmpV r k s.v.pr s.v.pn = D := ⟨_, rfl⟩
  have HMB : Hid (∀ u, Calls Try.prog 42 #[.agg #[.int .i64 r, .int .i64 k]] u fun e w' => e = .returned (.bool M) ∧ Below u.heap.size u w') := fun u => rvmay_r r k u hM
  have HMC : Hid (∀ u, Below w.heap.size w u → Calls Try.prog 43 #[.agg #[.int .i64 ec, .slice a0 m c0]] u fun e w' => e = .returned (.bool Y) ∧ Below u.heap.size u w') := fun u hu => by rw [hm]; exact refmaychain_r ec _ L B u (hI.keep (hu.mono hB)) (Nat.le_trans hB hu.size) Y hY.symm
  have HNX : Hid (∀ u, Below w.heap.size w u → Calls Try.prog 26 #[.agg #[.int .i64 s.ke, kv], .agg #[.int .i64 ec, .slice a0 m c0], .int .i64 s.n] u fun e w' => e = .returned (.bool X) ∧ Below u.heap.size u w') := fun u hu => by
    rw [hm]; exact rhfollows_r s.ke kv s.K ec _ L s.n u.heap.size u (hA.on hu).k.ints ((hI.keep (hu.mono hB)).mono (Nat.le_trans hB hu.size)) (Nat.le_refl _) hK hlim hX
  have HC : Hid (∀ u, Calls Try.prog 25 #[.agg #[.int .i64 r, .int .i64 k], .agg #[.int .i64 s.v.pr, .int .i64 s.v.pn]] u fun e w' => e = .returned (.int .i64 D) ∧ Below u.heap.size u w') := fun u => rvcmp_r r k _ _ u hD
  have HSR : Hid (∀ u, Below w.heap.size w u → Src Try.prog 1 22 (.slice a0 m c0) m (intCells L) u) := fun u hu => by rw [hm]; exact csrc (hI.keep (hu.mono hB))
  have HA := Lib.hid hA
  rw [← hm]
  obtain ⟨W, hW⟩ : ∃ W, W = (w.alloc (.cells #[.int .i64 ec, .slice a0 m c0] 28)).alloc (.cells #[.int .i64 r, .int .i64 k] 30) := ⟨_, rfl⟩
  have PK : Hid (RCT w ec (.slice a0 m c0) r k W) := by
    show RCT _ _ _ _ _ _
    rw [hW]
    refine ⟨(ChT.fresh w _ _).keep ((Below.refl _ _).alloc (Nat.le_refl _) _) (by simp), ?_, ((Below.refl _ w).alloc (Nat.le_refl _) _).alloc (by simp) _⟩
    have h := BalB.fresh (w.alloc (.cells #[.int .i64 ec, .slice a0 m c0] 28)) r k
    rwa [World.size_alloc] at h
  obtain ⟨g0, g1, _, _⟩ := PK.out.q.cells
  rw [hW] at g0 g1
  have HW := Lib.hid hW
  have hml : m ≤ 1000000 := by omega
  have HMM := Lib.hid hM
  have HYY := Lib.hid hY
  have HXX := Lib.hid hX
  have HDD := Lib.hid hD
  clear hA hI hW hM hY hX hD hm
  cases M with
  | false =>
    go_enter Try.func21, Try.ntmps21
    go_wp2_with fail
    rw [← HW.out]
    refine (HMB.out _).mono ?_
    rintro e w1 ⟨rfl, B1⟩
    have PK2 := Lib.hid (PK.out.on B1)
    clear PK B1 g0 g1
    have PK := PK2
    clear PK2
    have hE : accE s ec L r k veto = 1 := by rw [accE, if_pos (.inl HMM.out)]
    obtain rfl : err = 1 := by rw [← hee]; exact hE
    have hS : s' = s := by rw [← hs, accS, if_neg (by rw [hE]; decide)]
    subst hS
    clear hs hee hE
    go_wp2
    go_returns
    exact ⟨rfl, ⟨kv, cv, HA.out.on PK.out.bel⟩, .of PK.out.bel⟩
  | true =>
    cases Y with
    | false =>
      have hno : ¬ ChainV.may ⟨ec, L⟩ := of_decide_eq_false HYY.out
      go_enter Try.func21, Try.ntmps21
      go_wp2_with fail
      rw [← HW.out]
      refine (HMB.out _).mono ?_
      rintro e w1 ⟨rfl, B1⟩
      have PK2 := Lib.hid (PK.out.on B1)
      clear PK B1 g0 g1
      have PK := PK2
      clear PK2
      obtain ⟨g0, g1, _, _⟩ := PK.out.c.cells
      go_wp2_with fail
      refine (HMC.out _ PK.out.bel).mono ?_
      rintro e w2 ⟨rfl, B2⟩
      have PK2 := Lib.hid (PK.out.on B2)
      clear PK B2 g0 g1
      have PK := PK2
      clear PK2
      have hE : accE s ec L r k veto = 1 := by rw [accE, if_pos (.inr hno)]
      obtain rfl : err = 1 := by rw [← hee]; exact hE
      have hS : s' = s := by rw [← hs, accS, if_neg (by rw [hE]; decide)]
      subst hS
      clear hs hee hE
      go_wp2
      go_returns
      exact ⟨rfl, ⟨kv, cv, HA.out.on PK.out.bel⟩, .of PK.out.bel⟩
    | true =>
      have HMY : Hid (¬ (mayV r k = false ∨ ¬ ChainV.may ⟨ec, L⟩)) := by
        rintro (h | h)
        · rw [HMM.out] at h; cases h
        · exact h (of_decide_eq_true HYY.out)
      by_cases h1 : ec ≤ s.ke
      · have hb1 : decide (ec ≤ s.ke) = true := decide_eq_true h1
        have H1 := Lib.hid h1
        clear h1
        go_enter Try.func21, Try.ntmps21
        go_wp2_with fail
        rw [← HW.out]
        refine (HMB.out _).mono ?_
        rintro e w1 ⟨rfl, B1⟩
        have PK2 := Lib.hid (PK.out.on B1)
        clear PK B1 g0 g1
        have PK := PK2
        clear PK2
        obtain ⟨g0, g1, _, _⟩ := PK.out.c.cells
        go_wp2_with fail
        refine (HMC.out _ PK.out.bel).mono ?_
        rintro e w2 ⟨rfl, B2⟩
        have PK2 := Lib.hid (PK.out.on B2)
        clear PK B2 g0 g1
        have PK := PK2
        clear PK2
        have FX : Hid (∀ u, Below w2.heap.size w2 u → (u.cell? ⟨w.heap.size, 0, none⟩ = some (.int .i64 ec) ∧ u.cell? ⟨w.heap.size, 1, none⟩ = some (.slice a0 m c0)) ∧ (u.cell? ⟨w.heap.size + 1, 0, none⟩ = some (.int .i64 r) ∧ u.cell? ⟨w.heap.size + 1, 1, none⟩ = some (.int .i64 k)) ∧ u.cell? ⟨p, 0, none⟩ = some (.int .i64 s.n) ∧ u.cell? ⟨p, 1, none⟩ = some (.int .i64 s.ke) ∧ u.cell? ⟨p, 2, none⟩ = some kv ∧ u.cell? ⟨p, 3, none⟩ = some (.int .i64 s.v.pr) ∧ u.cell? ⟨p, 4, none⟩ = some (.int .i64 s.v.pn)) := fun u hu =>
          ⟨⟨(PK.out.on hu).c.cells.1, (PK.out.on hu).c.cells.2.1⟩, ⟨(PK.out.on hu).q.cells.1, (PK.out.on hu).q.cells.2.1⟩, (HA.out.on (PK.out.on hu).bel).b.cells.1, (HA.out.on (PK.out.on hu).bel).b.cells.2.1, (HA.out.on (PK.out.on hu).bel).b.cells.2.2.1, (HA.out.on (PK.out.on hu).bel).b.cells.2.2.2.1, (HA.out.on (PK.out.on hu).bel).b.cells.2.2.2.2.1⟩
        have P0 : Below w2.heap.size w2 w2.drew := (Below.refl _ _).drew
        go_wp2_with fail
        refine region_quiet (fun v => Below w2.heap.size w2 v) (by kernel_rfl) (by kernel_rfl) P0 ?_
        repeat (first
          | go_big_quiet_skip
          | (go_big_quiet_want
             (first
              | (refine quiet_run (v := ?_) ?_ ?_; rotate_left; (intro u hu; obtain ⟨⟨c0, c1⟩, ⟨c2, c3⟩, c4, c5, c6, c7, c8⟩ := FX.out u hu; go_simp <;> with_reducible rfl); simp only [Act.put, List.setIfInBounds_toArray, List.set_cons_zero, List.set_cons_succ]; go_big_quiet_on))))
        refine wpQuiet_nil ?_
        intro x3 h4
        have PK2 := Lib.hid (PK.out.on h4)
        clear FX P0 PK h4
        have PK := PK2
        clear PK2
        have hE : accE s ec L r k veto = 7 := by rw [accE, if_neg HMY.out, if_pos H1.out]
        obtain rfl : err = 7 := by rw [← hee]; exact hE
        have hS : s' = s := by rw [← hs, accS, if_neg (by rw [hE]; decide)]
        subst hS
        clear hs hee hE
        go_wp2
        go_returns
        exact ⟨rfl, ⟨kv, cv, HA.out.on PK.out.bel⟩, .of PK.out.bel⟩
      · have hb1 : decide (ec ≤ s.ke) = false := decide_eq_false h1
        have hs1 : wrap64 (ec - 1) = ec - 1 := IntWalk.wrap64_in _ (by omega)
        have hs2 : IntKind.i64.wrap (ec - 1) = ec - 1 := by rw [IntKind.wrap_i64]; omega
        have H1 := Lib.hid h1
        by_cases h2 : ec = s.ke + 1
        case neg =>
          have hb2 : (ec - 1 != s.ke) = true := by simp; omega
          have H2 := Lib.hid h2
          clear h1 h2
          go_enter Try.func21, Try.ntmps21
          go_wp2_with fail
          rw [← HW.out]
          refine (HMB.out _).mono ?_
          rintro e w1 ⟨rfl, B1⟩
          have PK2 := Lib.hid (PK.out.on B1)
          clear PK B1 g0 g1
          have PK := PK2
          clear PK2
          obtain ⟨g0, g1, _, _⟩ := PK.out.c.cells
          go_wp2_with fail
          refine (HMC.out _ PK.out.bel).mono ?_
          rintro e w2 ⟨rfl, B2⟩
          have PK2 := Lib.hid (PK.out.on B2)
          clear PK B2 g0 g1
          have PK := PK2
          clear PK2
          have FX : Hid (∀ u, Below w2.heap.size w2 u → (u.cell? ⟨w.heap.size, 0, none⟩ = some (.int .i64 ec) ∧ u.cell? ⟨w.heap.size, 1, none⟩ = some (.slice a0 m c0)) ∧ (u.cell? ⟨w.heap.size + 1, 0, none⟩ = some (.int .i64 r) ∧ u.cell? ⟨w.heap.size + 1, 1, none⟩ = some (.int .i64 k)) ∧ u.cell? ⟨p, 0, none⟩ = some (.int .i64 s.n) ∧ u.cell? ⟨p, 1, none⟩ = some (.int .i64 s.ke) ∧ u.cell? ⟨p, 2, none⟩ = some kv ∧ u.cell? ⟨p, 3, none⟩ = some (.int .i64 s.v.pr) ∧ u.cell? ⟨p, 4, none⟩ = some (.int .i64 s.v.pn)) := fun u hu =>
            ⟨⟨(PK.out.on hu).c.cells.1, (PK.out.on hu).c.cells.2.1⟩, ⟨(PK.out.on hu).q.cells.1, (PK.out.on hu).q.cells.2.1⟩, (HA.out.on (PK.out.on hu).bel).b.cells.1, (HA.out.on (PK.out.on hu).bel).b.cells.2.1, (HA.out.on (PK.out.on hu).bel).b.cells.2.2.1, (HA.out.on (PK.out.on hu).bel).b.cells.2.2.2.1, (HA.out.on (PK.out.on hu).bel).b.cells.2.2.2.2.1⟩
          have P0 : Below w2.heap.size w2 w2.drew := (Below.refl _ _).drew
          go_wp2_with fail
          refine region_quiet (fun v => Below w2.heap.size w2 v) (by kernel_rfl) (by kernel_rfl) P0 ?_
          repeat (first
            | go_big_quiet_skip
            | (go_big_quiet_want
               (first
                | (refine quiet_run (v := ?_) ?_ ?_; rotate_left; (intro u hu; obtain ⟨⟨c0, c1⟩, ⟨c2, c3⟩, c4, c5, c6, c7, c8⟩ := FX.out u hu; go_simp <;> with_reducible rfl); simp only [Act.put, List.setIfInBounds_toArray, List.set_cons_zero, List.set_cons_succ]; go_big_quiet_on))))
          refine wpQuiet_nil ?_
          intro x3 h4
          have PK2 := Lib.hid (PK.out.on h4)
          clear FX P0 PK h4
          have PK := PK2
          clear PK2
          have FX : Hid (∀ u, Below x3.heap.size x3 u → (u.cell? ⟨w.heap.size, 0, none⟩ = some (.int .i64 ec) ∧ u.cell? ⟨w.heap.size, 1, none⟩ = some (.slice a0 m c0)) ∧ (u.cell? ⟨w.heap.size + 1, 0, none⟩ = some (.int .i64 r) ∧ u.cell? ⟨w.heap.size + 1, 1, none⟩ = some (.int .i64 k)) ∧ u.cell? ⟨p, 0, none⟩ = some (.int .i64 s.n) ∧ u.cell? ⟨p, 1, none⟩ = some (.int .i64 s.ke) ∧ u.cell? ⟨p, 2, none⟩ = some kv ∧ u.cell? ⟨p, 3, none⟩ = some (.int .i64 s.v.pr) ∧ u.cell? ⟨p, 4, none⟩ = some (.int .i64 s.v.pn)) := fun u hu =>
            ⟨⟨(PK.out.on hu).c.cells.1, (PK.out.on hu).c.cells.2.1⟩, ⟨(PK.out.on hu).q.cells.1, (PK.out.on hu).q.cells.2.1⟩, (HA.out.on (PK.out.on hu).bel).b.cells.1, (HA.out.on (PK.out.on hu).bel).b.cells.2.1, (HA.out.on (PK.out.on hu).bel).b.cells.2.2.1, (HA.out.on (PK.out.on hu).bel).b.cells.2.2.2.1, (HA.out.on (PK.out.on hu).bel).b.cells.2.2.2.2.1⟩
          have P0 : Below x3.heap.size x3 x3.drew := (Below.refl _ _).drew
          go_wp2_with fail
          refine region_quiet (fun v => Below x3.heap.size x3 v) (by kernel_rfl) (by kernel_rfl) P0 ?_
          repeat (first
            | go_big_quiet_skip
            | (go_big_quiet_want
               (first
                | (refine quiet_run (v := ?_) ?_ ?_; rotate_left; (intro u hu; obtain ⟨⟨c0, c1⟩, ⟨c2, c3⟩, c4, c5, c6, c7, c8⟩ := FX.out u hu; go_simp <;> with_reducible rfl); simp only [Act.put, List.setIfInBounds_toArray, List.set_cons_zero, List.set_cons_succ]; go_big_quiet_on))))
          refine wpQuiet_nil ?_
          intro x5 h4
          have PK2 := Lib.hid (PK.out.on h4)
          clear FX P0 PK h4
          have PK := PK2
          clear PK2
          have hE : accE s ec L r k veto = 4 := by rw [accE, if_neg HMY.out, if_neg (by have := H1.out; omega), if_pos H2.out]
          obtain rfl : err = 4 := by rw [← hee]; exact hE
          have hS : s' = s := by rw [← hs, accS, if_neg (by rw [hE]; decide)]
          subst hS
          clear hs hee hE
          go_wp2
          go_returns
          exact ⟨rfl, ⟨kv, cv, HA.out.on PK.out.bel⟩, .of PK.out.bel⟩
        case pos =>
          have hb2 : (ec - 1 != s.ke) = false := by simp; omega
          have H2 : Hid (¬ ec ≠ s.ke + 1) := fun h => h h2
          clear h1 h2
          cases X with
          | false =>
            have hno : ¬ nextC s.ke s.K ec L s.n := of_decide_eq_false HXX.out
            go_enter Try.func21, Try.ntmps21
            go_wp2_with fail
            rw [← HW.out]
            refine (HMB.out _).mono ?_
            rintro e w1 ⟨rfl, B1⟩
            have PK2 := Lib.hid (PK.out.on B1)
            clear PK B1 g0 g1
            have PK := PK2
            clear PK2
            obtain ⟨g0, g1, _, _⟩ := PK.out.c.cells
            go_wp2_with fail
            refine (HMC.out _ PK.out.bel).mono ?_
            rintro e w2 ⟨rfl, B2⟩
            have PK2 := Lib.hid (PK.out.on B2)
            clear PK B2 g0 g1
            have PK := PK2
            clear PK2
            have FX : Hid (∀ u, Below w2.heap.size w2 u → (u.cell? ⟨w.heap.size, 0, none⟩ = some (.int .i64 ec) ∧ u.cell? ⟨w.heap.size, 1, none⟩ = some (.slice a0 m c0)) ∧ (u.cell? ⟨w.heap.size + 1, 0, none⟩ = some (.int .i64 r) ∧ u.cell? ⟨w.heap.size + 1, 1, none⟩ = some (.int .i64 k)) ∧ u.cell? ⟨p, 0, none⟩ = some (.int .i64 s.n) ∧ u.cell? ⟨p, 1, none⟩ = some (.int .i64 s.ke) ∧ u.cell? ⟨p, 2, none⟩ = some kv ∧ u.cell? ⟨p, 3, none⟩ = some (.int .i64 s.v.pr) ∧ u.cell? ⟨p, 4, none⟩ = some (.int .i64 s.v.pn)) := fun u hu =>
              ⟨⟨(PK.out.on hu).c.cells.1, (PK.out.on hu).c.cells.2.1⟩, ⟨(PK.out.on hu).q.cells.1, (PK.out.on hu).q.cells.2.1⟩, (HA.out.on (PK.out.on hu).bel).b.cells.1, (HA.out.on (PK.out.on hu).bel).b.cells.2.1, (HA.out.on (PK.out.on hu).bel).b.cells.2.2.1, (HA.out.on (PK.out.on hu).bel).b.cells.2.2.2.1, (HA.out.on (PK.out.on hu).bel).b.cells.2.2.2.2.1⟩
            have P0 : Below w2.heap.size w2 w2.drew := (Below.refl _ _).drew
            go_wp2_with fail
            refine region_quiet (fun v => Below w2.heap.size w2 v) (by kernel_rfl) (by kernel_rfl) P0 ?_
            repeat (first
              | go_big_quiet_skip
              | (go_big_quiet_want
                 (first
                  | (refine quiet_run (v := ?_) ?_ ?_; rotate_left; (intro u hu; obtain ⟨⟨c0, c1⟩, ⟨c2, c3⟩, c4, c5, c6, c7, c8⟩ := FX.out u hu; go_simp <;> with_reducible rfl); simp only [Act.put, List.setIfInBounds_toArray, List.set_cons_zero, List.set_cons_succ]; go_big_quiet_on))))
            refine wpQuiet_nil ?_
            intro x3 h4
            have PK2 := Lib.hid (PK.out.on h4)
            clear FX P0 PK h4
            have PK := PK2
            clear PK2
            have FX : Hid (∀ u, Below x3.heap.size x3 u → (u.cell? ⟨w.heap.size, 0, none⟩ = some (.int .i64 ec) ∧ u.cell? ⟨w.heap.size, 1, none⟩ = some (.slice a0 m c0)) ∧ (u.cell? ⟨w.heap.size + 1, 0, none⟩ = some (.int .i64 r) ∧ u.cell? ⟨w.heap.size + 1, 1, none⟩ = some (.int .i64 k)) ∧ u.cell? ⟨p, 0, none⟩ = some (.int .i64 s.n) ∧ u.cell? ⟨p, 1, none⟩ = some (.int .i64 s.ke) ∧ u.cell? ⟨p, 2, none⟩ = some kv ∧ u.cell? ⟨p, 3, none⟩ = some (.int .i64 s.v.pr) ∧ u.cell? ⟨p, 4, none⟩ = some (.int .i64 s.v.pn)) := fun u hu =>
              ⟨⟨(PK.out.on hu).c.cells.1, (PK.out.on hu).c.cells.2.1⟩, ⟨(PK.out.on hu).q.cells.1, (PK.out.on hu).q.cells.2.1⟩, (HA.out.on (PK.out.on hu).bel).b.cells.1, (HA.out.on (PK.out.on hu).bel).b.cells.2.1, (HA.out.on (PK.out.on hu).bel).b.cells.2.2.1, (HA.out.on (PK.out.on hu).bel).b.cells.2.2.2.1, (HA.out.on (PK.out.on hu).bel).b.cells.2.2.2.2.1⟩
            have P0 : Below x3.heap.size x3 x3.drew := (Below.refl _ _).drew
            go_wp2_with fail
            refine region_quiet (fun v => Below x3.heap.size x3 v) (by kernel_rfl) (by kernel_rfl) P0 ?_
            repeat (first
              | go_big_quiet_skip
              | (go_big_quiet_want
                 (first
                  | (refine quiet_run (v := ?_) ?_ ?_; rotate_left; (intro u hu; obtain ⟨⟨c0, c1⟩, ⟨c2, c3⟩, c4, c5, c6, c7, c8⟩ := FX.out u hu; go_simp <;> with_reducible rfl); simp only [Act.put, List.setIfInBounds_toArray, List.set_cons_zero, List.set_cons_succ]; go_big_quiet_on))))
            refine wpQuiet_nil ?_
            intro x5 h4
            have PK2 := Lib.hid (PK.out.on h4)
            clear FX P0 PK h4
            have PK := PK2
            clear PK2
            have FX : Hid (∀ u, Below x5.heap.size x5 u → (u.cell? ⟨w.heap.size, 0, none⟩ = some (.int .i64 ec) ∧ u.cell? ⟨w.heap.size, 1, none⟩ = some (.slice a0 m c0)) ∧ (u.cell? ⟨w.heap.size + 1, 0, none⟩ = some (.int .i64 r) ∧ u.cell? ⟨w.heap.size + 1, 1, none⟩ = some (.int .i64 k)) ∧ u.cell? ⟨p, 0, none⟩ = some (.int .i64 s.n) ∧ u.cell? ⟨p, 1, none⟩ = some (.int .i64 s.ke) ∧ u.cell? ⟨p, 2, none⟩ = some kv ∧ u.cell? ⟨p, 3, none⟩ = some (.int .i64 s.v.pr) ∧ u.cell? ⟨p, 4, none⟩ = some (.int .i64 s.v.pn)) := fun u hu =>
              ⟨⟨(PK.out.on hu).c.cells.1, (PK.out.on hu).c.cells.2.1⟩, ⟨(PK.out.on hu).q.cells.1, (PK.out.on hu).q.cells.2.1⟩, (HA.out.on (PK.out.on hu).bel).b.cells.1, (HA.out.on (PK.out.on hu).bel).b.cells.2.1, (HA.out.on (PK.out.on hu).bel).b.cells.2.2.1, (HA.out.on (PK.out.on hu).bel).b.cells.2.2.2.1, (HA.out.on (PK.out.on hu).bel).b.cells.2.2.2.2.1⟩
            have P0 : Below x5.heap.size x5 x5.drew := (Below.refl _ _).drew
            go_wp2_with fail
            refine region_quiet (fun v => Below x5.heap.size x5 v) (by kernel_rfl) (by kernel_rfl) P0 ?_
            repeat (first
              | go_big_quiet_skip
              | (go_big_quiet_want
                 (first
                  | (refine quiet_run (v := ?_) ?_ ?_; rotate_left; (intro u hu; obtain ⟨⟨c0, c1⟩, ⟨c2, c3⟩, c4, c5, c6, c7, c8⟩ := FX.out u hu; go_simp <;> with_reducible rfl); simp only [Act.put, List.setIfInBounds_toArray, List.set_cons_zero, List.set_cons_succ]; go_big_quiet_on)
                  | (refine quiet_enter 26 _ ?_ (fun u hu => (HNX.out u (PK.out.on hu).bel).mono fun e u' ⟨he, hb⟩ => ⟨he, hu.trans (hb.mono hu.size)⟩) ?_; (focus (intro u; first | (go_simp; done) | (go_simp; with_reducible rfl))); simp only [Act.put, List.setIfInBounds_toArray, List.set_cons_zero, List.set_cons_succ]; go_big_quiet_on))))
            refine wpQuiet_nil ?_
            intro x7 h4
            have PK2 := Lib.hid (PK.out.on h4)
            clear FX P0 PK h4
            have PK := PK2
            clear PK2
            have hE : accE s ec L r k veto = 1 := by rw [accE, if_neg HMY.out, if_neg (by have := H1.out; omega), if_neg H2.out, if_pos hno]
            obtain rfl : err = 1 := by rw [← hee]; exact hE
            have hS : s' = s := by rw [← hs, accS, if_neg (by rw [hE]; decide)]
            subst hS
            clear hs hee hE
            go_wp2
            go_returns
            exact ⟨rfl, ⟨kv, cv, HA.out.on PK.out.bel⟩, .of PK.out.bel⟩
          | true =>
            have HX2 : Hid (¬ ¬ nextC s.ke s.K ec L s.n) := fun h => h (of_decide_eq_true HXX.out)
            by_cases h3 : D < 0
            · have hb3 : decide (D < 0) = true := decide_eq_true h3
              have H3 : Hid (cmpV r k s.v.pr s.v.pn < 0) := by show _ < _; rw [HDD.out]; exact h3
              clear h3
              go_enter Try.func21, Try.ntmps21
              go_wp2_with fail
              rw [← HW.out]
              refine (HMB.out _).mono ?_
              rintro e w1 ⟨rfl, B1⟩
              have PK2 := Lib.hid (PK.out.on B1)
              clear PK B1 g0 g1
              have PK := PK2
              clear PK2
              obtain ⟨g0, g1, _, _⟩ := PK.out.c.cells
              go_wp2_with fail
              refine (HMC.out _ PK.out.bel).mono ?_
              rintro e w2 ⟨rfl, B2⟩
              have PK2 := Lib.hid (PK.out.on B2)
              clear PK B2 g0 g1
              have PK := PK2
              clear PK2
              have FX : Hid (∀ u, Below w2.heap.size w2 u → (u.cell? ⟨w.heap.size, 0, none⟩ = some (.int .i64 ec) ∧ u.cell? ⟨w.heap.size, 1, none⟩ = some (.slice a0 m c0)) ∧ (u.cell? ⟨w.heap.size + 1, 0, none⟩ = some (.int .i64 r) ∧ u.cell? ⟨w.heap.size + 1, 1, none⟩ = some (.int .i64 k)) ∧ u.cell? ⟨p, 0, none⟩ = some (.int .i64 s.n) ∧ u.cell? ⟨p, 1, none⟩ = some (.int .i64 s.ke) ∧ u.cell? ⟨p, 2, none⟩ = some kv ∧ u.cell? ⟨p, 3, none⟩ = some (.int .i64 s.v.pr) ∧ u.cell? ⟨p, 4, none⟩ = some (.int .i64 s.v.pn)) := fun u hu =>
                ⟨⟨(PK.out.on hu).c.cells.1, (PK.out.on hu).c.cells.2.1⟩, ⟨(PK.out.on hu).q.cells.1, (PK.out.on hu).q.cells.2.1⟩, (HA.out.on (PK.out.on hu).bel).b.cells.1, (HA.out.on (PK.out.on hu).bel).b.cells.2.1, (HA.out.on (PK.out.on hu).bel).b.cells.2.2.1, (HA.out.on (PK.out.on hu).bel).b.cells.2.2.2.1, (HA.out.on (PK.out.on hu).bel).b.cells.2.2.2.2.1⟩
              have P0 : Below w2.heap.size w2 w2.drew := (Below.refl _ _).drew
              go_wp2_with fail
              refine region_quiet (fun v => Below w2.heap.size w2 v) (by kernel_rfl) (by kernel_rfl) P0 ?_
              repeat (first
                | go_big_quiet_skip
                | (go_big_quiet_want
                   (first
                    | (refine quiet_run (v := ?_) ?_ ?_; rotate_left; (intro u hu; obtain ⟨⟨c0, c1⟩, ⟨c2, c3⟩, c4, c5, c6, c7, c8⟩ := FX.out u hu; go_simp <;> with_reducible rfl); simp only [Act.put, List.setIfInBounds_toArray, List.set_cons_zero, List.set_cons_succ]; go_big_quiet_on))))
              refine wpQuiet_nil ?_
              intro x3 h4
              have PK2 := Lib.hid (PK.out.on h4)
              clear FX P0 PK h4
              have PK := PK2
              clear PK2
              have FX : Hid (∀ u, Below x3.heap.size x3 u → (u.cell? ⟨w.heap.size, 0, none⟩ = some (.int .i64 ec) ∧ u.cell? ⟨w.heap.size, 1, none⟩ = some (.slice a0 m c0)) ∧ (u.cell? ⟨w.heap.size + 1, 0, none⟩ = some (.int .i64 r) ∧ u.cell? ⟨w.heap.size + 1, 1, none⟩ = some (.int .i64 k)) ∧ u.cell? ⟨p, 0, none⟩ = some (.int .i64 s.n) ∧ u.cell? ⟨p, 1, none⟩ = some (.int .i64 s.ke) ∧ u.cell? ⟨p, 2, none⟩ = some kv ∧ u.cell? ⟨p, 3, none⟩ = some (.int .i64 s.v.pr) ∧ u.cell? ⟨p, 4, none⟩ = some (.int .i64 s.v.pn)) := fun u hu =>
                ⟨⟨(PK.out.on hu).c.cells.1, (PK.out.on hu).c.cells.2.1⟩, ⟨(PK.out.on hu).q.cells.1, (PK.out.on hu).q.cells.2.1⟩, (HA.out.on (PK.out.on hu).bel).b.cells.1, (HA.out.on (PK.out.on hu).bel).b.cells.2.1, (HA.out.on (PK.out.on hu).bel).b.cells.2.2.1, (HA.out.on (PK.out.on hu).bel).b.cells.2.2.2.1, (HA.out.on (PK.out.on hu).bel).b.cells.2.2.2.2.1⟩
              have P0 : Below x3.heap.size x3 x3.drew := (Below.refl _ _).drew
              go_wp2_with fail
              refine region_quiet (fun v => Below x3.heap.size x3 v) (by kernel_rfl) (by kernel_rfl) P0 ?_
              repeat (first
                | go_big_quiet_skip
                | (go_big_quiet_want
                   (first
                    | (refine quiet_run (v := ?_) ?_ ?_; rotate_left; (intro u hu; obtain ⟨⟨c0, c1⟩, ⟨c2, c3⟩, c4, c5, c6, c7, c8⟩ := FX.out u hu; go_simp <;> with_reducible rfl); simp only [Act.put, List.setIfInBounds_toArray, List.set_cons_zero, List.set_cons_succ]; go_big_quiet_on))))
              refine wpQuiet_nil ?_
              intro x5 h4
              have PK2 := Lib.hid (PK.out.on h4)
              clear FX P0 PK h4
              have PK := PK2
              clear PK2
              have FX : Hid (∀ u, Below x5.heap.size x5 u → (u.cell? ⟨w.heap.size, 0, none⟩ = some (.int .i64 ec) ∧ u.cell? ⟨w.heap.size, 1, none⟩ = some (.slice a0 m c0)) ∧ (u.cell? ⟨w.heap.size + 1, 0, none⟩ = some (.int .i64 r) ∧ u.cell? ⟨w.heap.size + 1, 1, none⟩ = some (.int .i64 k)) ∧ u.cell? ⟨p, 0, none⟩ = some (.int .i64 s.n) ∧ u.cell? ⟨p, 1, none⟩ = some (.int .i64 s.ke) ∧ u.cell? ⟨p, 2, none⟩ = some kv ∧ u.cell? ⟨p, 3, none⟩ = some (.int .i64 s.v.pr) ∧ u.cell? ⟨p, 4, none⟩ = some (.int .i64 s.v.pn)) := fun u hu =>
                ⟨⟨(PK.out.on hu).c.cells.1, (PK.out.on hu).c.cells.2.1⟩, ⟨(PK.out.on hu).q.cells.1, (PK.out.on hu).q.cells.2.1⟩, (HA.out.on (PK.out.on hu).bel).b.cells.1, (HA.out.on (PK.out.on hu).bel).b.cells.2.1, (HA.out.on (PK.out.on hu).bel).b.cells.2.2.1, (HA.out.on (PK.out.on hu).bel).b.cells.2.2.2.1, (HA.out.on (PK.out.on hu).bel).b.cells.2.2.2.2.1⟩
              have P0 : Below x5.heap.size x5 x5.drew := (Below.refl _ _).drew
              go_wp2_with fail
              refine region_quiet (fun v => Below x5.heap.size x5 v) (by kernel_rfl) (by kernel_rfl) P0 ?_
              repeat (first
                | go_big_quiet_skip
                | (go_big_quiet_want
                   (first
                    | (refine quiet_run (v := ?_) ?_ ?_; rotate_left; (intro u hu; obtain ⟨⟨c0, c1⟩, ⟨c2, c3⟩, c4, c5, c6, c7, c8⟩ := FX.out u hu; go_simp <;> with_reducible rfl); simp only [Act.put, List.setIfInBounds_toArray, List.set_cons_zero, List.set_cons_succ]; go_big_quiet_on)
                    | (refine quiet_enter 26 _ ?_ (fun u hu => (HNX.out u (PK.out.on hu).bel).mono fun e u' ⟨he, hb⟩ => ⟨he, hu.trans (hb.mono hu.size)⟩) ?_; (focus (intro u; first | (go_simp; done) | (go_simp; with_reducible rfl))); simp only [Act.put, List.setIfInBounds_toArray, List.set_cons_zero, List.set_cons_succ]; go_big_quiet_on))))
              refine wpQuiet_nil ?_
              intro x7 h4
              have PK2 := Lib.hid (PK.out.on h4)
              clear FX P0 PK h4
              have PK := PK2
              clear PK2
              have FX : Hid (∀ u, Below x7.heap.size x7 u → (u.cell? ⟨w.heap.size, 0, none⟩ = some (.int .i64 ec) ∧ u.cell? ⟨w.heap.size, 1, none⟩ = some (.slice a0 m c0)) ∧ (u.cell? ⟨w.heap.size + 1, 0, none⟩ = some (.int .i64 r) ∧ u.cell? ⟨w.heap.size + 1, 1, none⟩ = some (.int .i64 k)) ∧ u.cell? ⟨p, 0, none⟩ = some (.int .i64 s.n) ∧ u.cell? ⟨p, 1, none⟩ = some (.int .i64 s.ke) ∧ u.cell? ⟨p, 2, none⟩ = some kv ∧ u.cell? ⟨p, 3, none⟩ = some (.int .i64 s.v.pr) ∧ u.cell? ⟨p, 4, none⟩ = some (.int .i64 s.v.pn)) := fun u hu =>
                ⟨⟨(PK.out.on hu).c.cells.1, (PK.out.on hu).c.cells.2.1⟩, ⟨(PK.out.on hu).q.cells.1, (PK.out.on hu).q.cells.2.1⟩, (HA.out.on (PK.out.on hu).bel).b.cells.1, (HA.out.on (PK.out.on hu).bel).b.cells.2.1, (HA.out.on (PK.out.on hu).bel).b.cells.2.2.1, (HA.out.on (PK.out.on hu).bel).b.cells.2.2.2.1, (HA.out.on (PK.out.on hu).bel).b.cells.2.2.2.2.1⟩
              have P0 : Below x7.heap.size x7 x7.drew := (Below.refl _ _).drew
              go_wp2_with fail
              refine region_quiet (fun v => Below x7.heap.size x7 v) (by kernel_rfl) (by kernel_rfl) P0 ?_
              repeat (first
                | go_big_quiet_skip
                | (go_big_quiet_want
                   (first
                    | (refine quiet_run (v := ?_) ?_ ?_; rotate_left; (intro u hu; obtain ⟨⟨c0, c1⟩, ⟨c2, c3⟩, c4, c5, c6, c7, c8⟩ := FX.out u hu; go_simp <;> with_reducible rfl); simp only [Act.put, List.setIfInBounds_toArray, List.set_cons_zero, List.set_cons_succ]; go_big_quiet_on)
                    | (refine quiet_enter 25 _ ?_ (fun u hu => (HC.out u).mono fun e u' ⟨he, hb⟩ => ⟨he, hu.trans (hb.mono hu.size)⟩) ?_; (focus (intro u; first | (go_simp; done) | (go_simp; with_reducible rfl))); simp only [Act.put, List.setIfInBounds_toArray, List.set_cons_zero, List.set_cons_succ]; go_big_quiet_on))))
              refine wpQuiet_nil ?_
              intro x9 h4
              have PK2 := Lib.hid (PK.out.on h4)
              clear FX P0 PK h4
              have PK := PK2
              clear PK2
              have hE : accE s ec L r k veto = 7 := by rw [accE, if_neg HMY.out, if_neg (by have := H1.out; omega), if_neg H2.out, if_neg HX2.out, if_pos H3.out]
              obtain rfl : err = 7 := by rw [← hee]; exact hE
              have hS : s' = s := by rw [← hs, accS, if_neg (by rw [hE]; decide)]
              subst hS
              clear hs hee hE
              go_wp2
              go_returns
              exact ⟨rfl, ⟨kv, cv, HA.out.on PK.out.bel⟩, .of PK.out.bel⟩
            · have hb3 : decide (D < 0) = false := decide_eq_false h3
              have H3 : Hid (¬ cmpV r k s.v.pr s.v.pn < 0) := by show ¬ _ < _; rw [HDD.out]; exact h3
              clear h3
              cases veto with
              | true =>
                go_enter Try.func21, Try.ntmps21
                go_wp2_with fail
                rw [← HW.out]
                refine (HMB.out _).mono ?_
                rintro e w1 ⟨rfl, B1⟩
                have PK2 := Lib.hid (PK.out.on B1)
                clear PK B1 g0 g1
                have PK := PK2
                clear PK2
                obtain ⟨g0, g1, _, _⟩ := PK.out.c.cells
                go_wp2_with fail
                refine (HMC.out _ PK.out.bel).mono ?_
                rintro e w2 ⟨rfl, B2⟩
                have PK2 := Lib.hid (PK.out.on B2)
                clear PK B2 g0 g1
                have PK := PK2
                clear PK2
                have FX : Hid (∀ u, Below w2.heap.size w2 u → (u.cell? ⟨w.heap.size, 0, none⟩ = some (.int .i64 ec) ∧ u.cell? ⟨w.heap.size, 1, none⟩ = some (.slice a0 m c0)) ∧ (u.cell? ⟨w.heap.size + 1, 0, none⟩ = some (.int .i64 r) ∧ u.cell? ⟨w.heap.size + 1, 1, none⟩ = some (.int .i64 k)) ∧ u.cell? ⟨p, 0, none⟩ = some (.int .i64 s.n) ∧ u.cell? ⟨p, 1, none⟩ = some (.int .i64 s.ke) ∧ u.cell? ⟨p, 2, none⟩ = some kv ∧ u.cell? ⟨p, 3, none⟩ = some (.int .i64 s.v.pr) ∧ u.cell? ⟨p, 4, none⟩ = some (.int .i64 s.v.pn)) := fun u hu =>
                  ⟨⟨(PK.out.on hu).c.cells.1, (PK.out.on hu).c.cells.2.1⟩, ⟨(PK.out.on hu).q.cells.1, (PK.out.on hu).q.cells.2.1⟩, (HA.out.on (PK.out.on hu).bel).b.cells.1, (HA.out.on (PK.out.on hu).bel).b.cells.2.1, (HA.out.on (PK.out.on hu).bel).b.cells.2.2.1, (HA.out.on (PK.out.on hu).bel).b.cells.2.2.2.1, (HA.out.on (PK.out.on hu).bel).b.cells.2.2.2.2.1⟩
                have P0 : Below w2.heap.size w2 w2.drew := (Below.refl _ _).drew
                go_wp2_with fail
                refine region_quiet (fun v => Below w2.heap.size w2 v) (by kernel_rfl) (by kernel_rfl) P0 ?_
                repeat (first
                  | go_big_quiet_skip
                  | (go_big_quiet_want
                     (first
                      | (refine quiet_run (v := ?_) ?_ ?_; rotate_left; (intro u hu; obtain ⟨⟨c0, c1⟩, ⟨c2, c3⟩, c4, c5, c6, c7, c8⟩ := FX.out u hu; go_simp <;> with_reducible rfl); simp only [Act.put, List.setIfInBounds_toArray, List.set_cons_zero, List.set_cons_succ]; go_big_quiet_on))))
                refine wpQuiet_nil ?_
                intro x3 h4
                have PK2 := Lib.hid (PK.out.on h4)
                clear FX P0 PK h4
                have PK := PK2
                clear PK2
                have FX : Hid (∀ u, Below x3.heap.size x3 u → (u.cell? ⟨w.heap.size, 0, none⟩ = some (.int .i64 ec) ∧ u.cell? ⟨w.heap.size, 1, none⟩ = some (.slice a0 m c0)) ∧ (u.cell? ⟨w.heap.size + 1, 0, none⟩ = some (.int .i64 r) ∧ u.cell? ⟨w.heap.size + 1, 1, none⟩ = some (.int .i64 k)) ∧ u.cell? ⟨p, 0, none⟩ = some (.int .i64 s.n) ∧ u.cell? ⟨p, 1, none⟩ = some (.int .i64 s.ke) ∧ u.cell? ⟨p, 2, none⟩ = some kv ∧ u.cell? ⟨p, 3, none⟩ = some (.int .i64 s.v.pr) ∧ u.cell? ⟨p, 4, none⟩ = some (.int .i64 s.v.pn)) := fun u hu =>
                  ⟨⟨(PK.out.on hu).c.cells.1, (PK.out.on hu).c.cells.2.1⟩, ⟨(PK.out.on hu).q.cells.1, (PK.out.on hu).q.cells.2.1⟩, (HA.out.on (PK.out.on hu).bel).b.cells.1, (HA.out.on (PK.out.on hu).bel).b.cells.2.1, (HA.out.on (PK.out.on hu).bel).b.cells.2.2.1, (HA.out.on (PK.out.on hu).bel).b.cells.2.2.2.1, (HA.out.on (PK.out.on hu).bel).b.cells.2.2.2.2.1⟩
                have P0 : Below x3.heap.size x3 x3.drew := (Below.refl _ _).drew
                go_wp2_with fail
                refine region_quiet (fun v => Below x3.heap.size x3 v) (by kernel_rfl) (by kernel_rfl) P0 ?_
                repeat (first
                  | go_big_quiet_skip
                  | (go_big_quiet_want
                     (first
                      | (refine quiet_run (v := ?_) ?_ ?_; rotate_left; (intro u hu; obtain ⟨⟨c0, c1⟩, ⟨c2, c3⟩, c4, c5, c6, c7, c8⟩ := FX.out u hu; go_simp <;> with_reducible rfl); simp only [Act.put, List.setIfInBounds_toArray, List.set_cons_zero, List.set_cons_succ]; go_big_quiet_on))))
                refine wpQuiet_nil ?_
                intro x5 h4
                have PK2 := Lib.hid (PK.out.on h4)
                clear FX P0 PK h4
                have PK := PK2
                clear PK2
                have FX : Hid (∀ u, Below x5.heap.size x5 u → (u.cell? ⟨w.heap.size, 0, none⟩ = some (.int .i64 ec) ∧ u.cell? ⟨w.heap.size, 1, none⟩ = some (.slice a0 m c0)) ∧ (u.cell? ⟨w.heap.size + 1, 0, none⟩ = some (.int .i64 r) ∧ u.cell? ⟨w.heap.size + 1, 1, none⟩ = some (.int .i64 k)) ∧ u.cell? ⟨p, 0, none⟩ = some (.int .i64 s.n) ∧ u.cell? ⟨p, 1, none⟩ = some (.int .i64 s.ke) ∧ u.cell? ⟨p, 2, none⟩ = some kv ∧ u.cell? ⟨p, 3, none⟩ = some (.int .i64 s.v.pr) ∧ u.cell? ⟨p, 4, none⟩ = some (.int .i64 s.v.pn)) := fun u hu =>
                  ⟨⟨(PK.out.on hu).c.cells.1, (PK.out.on hu).c.cells.2.1⟩, ⟨(PK.out.on hu).q.cells.1, (PK.out.on hu).q.cells.2.1⟩, (HA.out.on (PK.out.on hu).bel).b.cells.1, (HA.out.on (PK.out.on hu).bel).b.cells.2.1, (HA.out.on (PK.out.on hu).bel).b.cells.2.2.1, (HA.out.on (PK.out.on hu).bel).b.cells.2.2.2.1, (HA.out.on (PK.out.on hu).bel).b.cells.2.2.2.2.1⟩
                have P0 : Below x5.heap.size x5 x5.drew := (Below.refl _ _).drew
                go_wp2_with fail
                refine region_quiet (fun v => Below x5.heap.size x5 v) (by kernel_rfl) (by kernel_rfl) P0 ?_
                repeat (first
                  | go_big_quiet_skip
                  | (go_big_quiet_want
                     (first
                      | (refine quiet_run (v := ?_) ?_ ?_; rotate_left; (intro u hu; obtain ⟨⟨c0, c1⟩, ⟨c2, c3⟩, c4, c5, c6, c7, c8⟩ := FX.out u hu; go_simp <;> with_reducible rfl); simp only [Act.put, List.setIfInBounds_toArray, List.set_cons_zero, List.set_cons_succ]; go_big_quiet_on)
                      | (refine quiet_enter 26 _ ?_ (fun u hu => (HNX.out u (PK.out.on hu).bel).mono fun e u' ⟨he, hb⟩ => ⟨he, hu.trans (hb.mono hu.size)⟩) ?_; (focus (intro u; first | (go_simp; done) | (go_simp; with_reducible rfl))); simp only [Act.put, List.setIfInBounds_toArray, List.set_cons_zero, List.set_cons_succ]; go_big_quiet_on))))
                refine wpQuiet_nil ?_
                intro x7 h4
                have PK2 := Lib.hid (PK.out.on h4)
                clear FX P0 PK h4
                have PK := PK2
                clear PK2
                have FX : Hid (∀ u, Below x7.heap.size x7 u → (u.cell? ⟨w.heap.size, 0, none⟩ = some (.int .i64 ec) ∧ u.cell? ⟨w.heap.size, 1, none⟩ = some (.slice a0 m c0)) ∧ (u.cell? ⟨w.heap.size + 1, 0, none⟩ = some (.int .i64 r) ∧ u.cell? ⟨w.heap.size + 1, 1, none⟩ = some (.int .i64 k)) ∧ u.cell? ⟨p, 0, none⟩ = some (.int .i64 s.n) ∧ u.cell? ⟨p, 1, none⟩ = some (.int .i64 s.ke) ∧ u.cell? ⟨p, 2, none⟩ = some kv ∧ u.cell? ⟨p, 3, none⟩ = some (.int .i64 s.v.pr) ∧ u.cell? ⟨p, 4, none⟩ = some (.int .i64 s.v.pn)) := fun u hu =>
                  ⟨⟨(PK.out.on hu).c.cells.1, (PK.out.on hu).c.cells.2.1⟩, ⟨(PK.out.on hu).q.cells.1, (PK.out.on hu).q.cells.2.1⟩, (HA.out.on (PK.out.on hu).bel).b.cells.1, (HA.out.on (PK.out.on hu).bel).b.cells.2.1, (HA.out.on (PK.out.on hu).bel).b.cells.2.2.1, (HA.out.on (PK.out.on hu).bel).b.cells.2.2.2.1, (HA.out.on (PK.out.on hu).bel).b.cells.2.2.2.2.1⟩
                have P0 : Below x7.heap.size x7 x7.drew := (Below.refl _ _).drew
                go_wp2_with fail
                refine region_quiet (fun v => Below x7.heap.size x7 v) (by kernel_rfl) (by kernel_rfl) P0 ?_
                repeat (first
                  | go_big_quiet_skip
                  | (go_big_quiet_want
                     (first
                      | (refine quiet_run (v := ?_) ?_ ?_; rotate_left; (intro u hu; obtain ⟨⟨c0, c1⟩, ⟨c2, c3⟩, c4, c5, c6, c7, c8⟩ := FX.out u hu; go_simp <;> with_reducible rfl); simp only [Act.put, List.setIfInBounds_toArray, List.set_cons_zero, List.set_cons_succ]; go_big_quiet_on)
                      | (refine quiet_enter 25 _ ?_ (fun u hu => (HC.out u).mono fun e u' ⟨he, hb⟩ => ⟨he, hu.trans (hb.mono hu.size)⟩) ?_; (focus (intro u; first | (go_simp; done) | (go_simp; with_reducible rfl))); simp only [Act.put, List.setIfInBounds_toArray, List.set_cons_zero, List.set_cons_succ]; go_big_quiet_on))))
                refine wpQuiet_nil ?_
                intro x9 h4
                have PK2 := Lib.hid (PK.out.on h4)
                clear FX P0 PK h4
                have PK := PK2
                clear PK2
                have hE : accE s ec L r k true = 8 := by rw [accE, if_neg HMY.out, if_neg (by have := H1.out; omega), if_neg H2.out, if_neg HX2.out, if_neg (by have := H3.out; omega), if_pos rfl]
                obtain rfl : err = 8 := by rw [← hee]; exact hE
                have hS : s' = s := by rw [← hs, accS, if_neg (by rw [hE]; decide)]
                subst hS
                clear hs hee hE
                go_wp2
                go_returns
                exact ⟨rfl, ⟨kv, cv, HA.out.on PK.out.bel⟩, .of PK.out.bel⟩
              | false =>
                have hE : accE s ec L r k false = 0 := by rw [accE, if_neg HMY.out, if_neg (by have := H1.out; omega), if_neg H2.out, if_neg HX2.out, if_neg (by have := H3.out; omega), if_neg (by decide)]
                obtain rfl : err = 0 := by rw [← hee]; exact hE
                have hS : s' = ⟨s.n, s.ke, s.K, ⟨r, k, r, k, true, ec, L⟩⟩ := by rw [← hs, accS, if_pos hE]
                subst hS
                clear hs hee hE
                go_enter Try.func21, Try.ntmps21
                go_wp2_with fail
                rw [← HW.out]
                refine (HMB.out _).mono ?_
                rintro e w1 ⟨rfl, B1⟩
                have PK2 := Lib.hid (PK.out.on B1)
                clear PK B1 g0 g1
                have PK := PK2
                clear PK2
                obtain ⟨g0, g1, _, _⟩ := PK.out.c.cells
                go_wp2_with fail
                refine (HMC.out _ PK.out.bel).mono ?_
                rintro e w2 ⟨rfl, B2⟩
                have PK2 := Lib.hid (PK.out.on B2)
                clear PK B2 g0 g1
                have PK := PK2
                clear PK2
                have FX : Hid (∀ u, Below w2.heap.size w2 u → (u.cell? ⟨w.heap.size, 0, none⟩ = some (.int .i64 ec) ∧ u.cell? ⟨w.heap.size, 1, none⟩ = some (.slice a0 m c0)) ∧ (u.cell? ⟨w.heap.size + 1, 0, none⟩ = some (.int .i64 r) ∧ u.cell? ⟨w.heap.size + 1, 1, none⟩ = some (.int .i64 k)) ∧ u.cell? ⟨p, 0, none⟩ = some (.int .i64 s.n) ∧ u.cell? ⟨p, 1, none⟩ = some (.int .i64 s.ke) ∧ u.cell? ⟨p, 2, none⟩ = some kv ∧ u.cell? ⟨p, 3, none⟩ = some (.int .i64 s.v.pr) ∧ u.cell? ⟨p, 4, none⟩ = some (.int .i64 s.v.pn)) := fun u hu =>
                  ⟨⟨(PK.out.on hu).c.cells.1, (PK.out.on hu).c.cells.2.1⟩, ⟨(PK.out.on hu).q.cells.1, (PK.out.on hu).q.cells.2.1⟩, (HA.out.on (PK.out.on hu).bel).b.cells.1, (HA.out.on (PK.out.on hu).bel).b.cells.2.1, (HA.out.on (PK.out.on hu).bel).b.cells.2.2.1, (HA.out.on (PK.out.on hu).bel).b.cells.2.2.2.1, (HA.out.on (PK.out.on hu).bel).b.cells.2.2.2.2.1⟩
                have P0 : Below w2.heap.size w2 w2.drew := (Below.refl _ _).drew
                go_wp2_with fail
                refine region_quiet (fun v => Below w2.heap.size w2 v) (by kernel_rfl) (by kernel_rfl) P0 ?_
                repeat (first
                  | go_big_quiet_skip
                  | (go_big_quiet_want
                     (first
                      | (refine quiet_run (v := ?_) ?_ ?_; rotate_left; (intro u hu; obtain ⟨⟨c0, c1⟩, ⟨c2, c3⟩, c4, c5, c6, c7, c8⟩ := FX.out u hu; go_simp <;> with_reducible rfl); simp only [Act.put, List.setIfInBounds_toArray, List.set_cons_zero, List.set_cons_succ]; go_big_quiet_on))))
                refine wpQuiet_nil ?_
                intro x3 h4
                have PK2 := Lib.hid (PK.out.on h4)
                clear FX P0 PK h4
                have PK := PK2
                clear PK2
                have FX : Hid (∀ u, Below x3.heap.size x3 u → (u.cell? ⟨w.heap.size, 0, none⟩ = some (.int .i64 ec) ∧ u.cell? ⟨w.heap.size, 1, none⟩ = some (.slice a0 m c0)) ∧ (u.cell? ⟨w.heap.size + 1, 0, none⟩ = some (.int .i64 r) ∧ u.cell? ⟨w.heap.size + 1, 1, none⟩ = some (.int .i64 k)) ∧ u.cell? ⟨p, 0, none⟩ = some (.int .i64 s.n) ∧ u.cell? ⟨p, 1, none⟩ = some (.int .i64 s.ke) ∧ u.cell? ⟨p, 2, none⟩ = some kv ∧ u.cell? ⟨p, 3, none⟩ = some (.int .i64 s.v.pr) ∧ u.cell? ⟨p, 4, none⟩ = some (.int .i64 s.v.pn)) := fun u hu =>
                  ⟨⟨(PK.out.on hu).c.cells.1, (PK.out.on hu).c.cells.2.1⟩, ⟨(PK.out.on hu).q.cells.1, (PK.out.on hu).q.cells.2.1⟩, (HA.out.on (PK.out.on hu).bel).b.cells.1, (HA.out.on (PK.out.on hu).bel).b.cells.2.1, (HA.out.on (PK.out.on hu).bel).b.cells.2.2.1, (HA.out.on (PK.out.on hu).bel).b.cells.2.2.2.1, (HA.out.on (PK.out.on hu).bel).b.cells.2.2.2.2.1⟩
                have P0 : Below x3.heap.size x3 x3.drew := (Below.refl _ _).drew
                go_wp2_with fail
                refine region_quiet (fun v => Below x3.heap.size x3 v) (by kernel_rfl) (by kernel_rfl) P0 ?_
                repeat (first
                  | go_big_quiet_skip
                  | (go_big_quiet_want
                     (first
                      | (refine quiet_run (v := ?_) ?_ ?_; rotate_left; (intro u hu; obtain ⟨⟨c0, c1⟩, ⟨c2, c3⟩, c4, c5, c6, c7, c8⟩ := FX.out u hu; go_simp <;> with_reducible rfl); simp only [Act.put, List.setIfInBounds_toArray, List.set_cons_zero, List.set_cons_succ]; go_big_quiet_on))))
                refine wpQuiet_nil ?_
                intro x5 h4
                have PK2 := Lib.hid (PK.out.on h4)
                clear FX P0 PK h4
                have PK := PK2
                clear PK2
                have FX : Hid (∀ u, Below x5.heap.size x5 u → (u.cell? ⟨w.heap.size, 0, none⟩ = some (.int .i64 ec) ∧ u.cell? ⟨w.heap.size, 1, none⟩ = some (.slice a0 m c0)) ∧ (u.cell? ⟨w.heap.size + 1, 0, none⟩ = some (.int .i64 r) ∧ u.cell? ⟨w.heap.size + 1, 1, none⟩ = some (.int .i64 k)) ∧ u.cell? ⟨p, 0, none⟩ = some (.int .i64 s.n) ∧ u.cell? ⟨p, 1, none⟩ = some (.int .i64 s.ke) ∧ u.cell? ⟨p, 2, none⟩ = some kv ∧ u.cell? ⟨p, 3, none⟩ = some (.int .i64 s.v.pr) ∧ u.cell? ⟨p, 4, none⟩ = some (.int .i64 s.v.pn)) := fun u hu =>
                  ⟨⟨(PK.out.on hu).c.cells.1, (PK.out.on hu).c.cells.2.1⟩, ⟨(PK.out.on hu).q.cells.1, (PK.out.on hu).q.cells.2.1⟩, (HA.out.on (PK.out.on hu).bel).b.cells.1, (HA.out.on (PK.out.on hu).bel).b.cells.2.1, (HA.out.on (PK.out.on hu).bel).b.cells.2.2.1, (HA.out.on (PK.out.on hu).bel).b.cells.2.2.2.1, (HA.out.on (PK.out.on hu).bel).b.cells.2.2.2.2.1⟩
                have P0 : Below x5.heap.size x5 x5.drew := (Below.refl _ _).drew
                go_wp2_with fail
                refine region_quiet (fun v => Below x5.heap.size x5 v) (by kernel_rfl) (by kernel_rfl) P0 ?_
                repeat (first
                  | go_big_quiet_skip
                  | (go_big_quiet_want
                     (first
                      | (refine quiet_run (v := ?_) ?_ ?_; rotate_left; (intro u hu; obtain ⟨⟨c0, c1⟩, ⟨c2, c3⟩, c4, c5, c6, c7, c8⟩ := FX.out u hu; go_simp <;> with_reducible rfl); simp only [Act.put, List.setIfInBounds_toArray, List.set_cons_zero, List.set_cons_succ]; go_big_quiet_on)
                      | (refine quiet_enter 26 _ ?_ (fun u hu => (HNX.out u (PK.out.on hu).bel).mono fun e u' ⟨he, hb⟩ => ⟨he, hu.trans (hb.mono hu.size)⟩) ?_; (focus (intro u; first | (go_simp; done) | (go_simp; with_reducible rfl))); simp only [Act.put, List.setIfInBounds_toArray, List.set_cons_zero, List.set_cons_succ]; go_big_quiet_on))))
                refine wpQuiet_nil ?_
                intro x7 h4
                have PK2 := Lib.hid (PK.out.on h4)
                clear FX P0 PK h4
                have PK := PK2
                clear PK2
                have FX : Hid (∀ u, Below x7.heap.size x7 u → (u.cell? ⟨w.heap.size, 0, none⟩ = some (.int .i64 ec) ∧ u.cell? ⟨w.heap.size, 1, none⟩ = some (.slice a0 m c0)) ∧ (u.cell? ⟨w.heap.size + 1, 0, none⟩ = some (.int .i64 r) ∧ u.cell? ⟨w.heap.size + 1, 1, none⟩ = some (.int .i64 k)) ∧ u.cell? ⟨p, 0, none⟩ = some (.int .i64 s.n) ∧ u.cell? ⟨p, 1, none⟩ = some (.int .i64 s.ke) ∧ u.cell? ⟨p, 2, none⟩ = some kv ∧ u.cell? ⟨p, 3, none⟩ = some (.int .i64 s.v.pr) ∧ u.cell? ⟨p, 4, none⟩ = some (.int .i64 s.v.pn)) := fun u hu =>
                  ⟨⟨(PK.out.on hu).c.cells.1, (PK.out.on hu).c.cells.2.1⟩, ⟨(PK.out.on hu).q.cells.1, (PK.out.on hu).q.cells.2.1⟩, (HA.out.on (PK.out.on hu).bel).b.cells.1, (HA.out.on (PK.out.on hu).bel).b.cells.2.1, (HA.out.on (PK.out.on hu).bel).b.cells.2.2.1, (HA.out.on (PK.out.on hu).bel).b.cells.2.2.2.1, (HA.out.on (PK.out.on hu).bel).b.cells.2.2.2.2.1⟩
                have P0 : Below x7.heap.size x7 x7.drew := (Below.refl _ _).drew
                go_wp2_with fail
                refine region_quiet (fun v => Below x7.heap.size x7 v) (by kernel_rfl) (by kernel_rfl) P0 ?_
                repeat (first
                  | go_big_quiet_skip
                  | (go_big_quiet_want
                     (first
                      | (refine quiet_run (v := ?_) ?_ ?_; rotate_left; (intro u hu; obtain ⟨⟨c0, c1⟩, ⟨c2, c3⟩, c4, c5, c6, c7, c8⟩ := FX.out u hu; go_simp <;> with_reducible rfl); simp only [Act.put, List.setIfInBounds_toArray, List.set_cons_zero, List.set_cons_succ]; go_big_quiet_on)
                      | (refine quiet_enter 25 _ ?_ (fun u hu => (HC.out u).mono fun e u' ⟨he, hb⟩ => ⟨he, hu.trans (hb.mono hu.size)⟩) ?_; (focus (intro u; first | (go_simp; done) | (go_simp; with_reducible rfl))); simp only [Act.put, List.setIfInBounds_toArray, List.set_cons_zero, List.set_cons_succ]; go_big_quiet_on))))
                refine wpQuiet_nil ?_
                intro x9 h4
                have PK2 := Lib.hid (PK.out.on h4)
                clear FX P0 PK h4
                have PK := PK2
                clear PK2
                go_wp2_with fail
                obtain ⟨i0, hi, hz0, hz1, hz2⟩ := info_parts info_int12
                have HMADE : Hid ((x9.alloc (.cells #[] 3)).drew.ownsRow x9.heap.size 3 1 (.slice (some ⟨x9.heap.size, 0, none⟩) 0 0) 0 []) := rowOn (World.ownsRow_made x9 #[] 0 (Nat.le_refl _) (Nat.zero_le _) rfl) ((Below.refl _ _).drew)
                have HSRC : Hid (Src Try.prog 1 22 (.slice a0 m c0) m (intCells L) (x9.alloc (.cells #[] 3)).drew) := HSR.out _ (PK.out.bel.trans (Below.mono (Below.drew ((Below.refl _ _).alloc (Nat.le_refl _) _)) PK.out.bel.size))
                have HS : Hid (∀ u, Below x9.heap.size x9 u → (fun u => (u.cell? ⟨w.heap.size, 0, none⟩ = some (.int .i64 ec) ∧ u.cell? ⟨w.heap.size, 1, none⟩ = some (.slice a0 m c0)) ∧ u.cell? ⟨w.heap.size + 1, 0, none⟩ = some (.int .i64 r) ∧ u.cell? ⟨w.heap.size + 1, 1, none⟩ = some (.int .i64 k)) u) := fun u hu => ⟨⟨(PK.out.on hu).c.cells.1, (PK.out.on hu).c.cells.2.1⟩, (PK.out.on hu).q.cells.1, (PK.out.on hu).q.cells.2.1⟩
                refine wp_region_held_drew (S := (fun u => (u.cell? ⟨w.heap.size, 0, none⟩ = some (.int .i64 ec) ∧ u.cell? ⟨w.heap.size, 1, none⟩ = some (.slice a0 m c0)) ∧ u.cell? ⟨w.heap.size + 1, 0, none⟩ = some (.int .i64 r) ∧ u.cell? ⟨w.heap.size + 1, 1, none⟩ = some (.int .i64 k))) (by kernel_rfl) (HS.out _ (Below.drew (Below.refl _ _))) (fun hHeld => ?_)
                first
                  | (refine held_take 0 60 (v := ?_) rfl rfl (by kernel_rfl) (by kernel_rfl) (by kernel_rfl) (fun _ _ _ h => h) (by assumption) (by rfl) ?_ ?_; rotate_left; (focus (intro w hSw; obtain ⟨⟨hS0, hS1⟩, hS2, hS3⟩ := hSw; go_simp <;> with_reducible rfl)))
                  | refine held_pass 0 60 rfl rfl (by kernel_rfl) (by kernel_rfl) (by kernel_rfl) (fun _ _ _ h => h) (by assumption) (by rfl) ?_
                simp only [Act.put, List.setIfInBounds_toArray, List.set_cons_zero, List.set_cons_succ]
                first
                  | (refine held_take 1 61 (v := ?_) rfl rfl (by kernel_rfl) (by kernel_rfl) (by kernel_rfl) (fun _ _ _ h => h) (by assumption) (by rfl) ?_ ?_; rotate_left; (focus (intro w hSw; obtain ⟨⟨hS0, hS1⟩, hS2, hS3⟩ := hSw; go_simp <;> with_reducible rfl)))
                  | refine held_pass 1 61 rfl rfl (by kernel_rfl) (by kernel_rfl) (by kernel_rfl) (fun _ _ _ h => h) (by assumption) (by rfl) ?_
                simp only [Act.put, List.setIfInBounds_toArray, List.set_cons_zero, List.set_cons_succ]
                first
                  | (refine held_take 2 62 (v := ?_) rfl rfl (by kernel_rfl) (by kernel_rfl) (by kernel_rfl) (fun _ _ _ h => h) (by assumption) (by rfl) ?_ ?_; rotate_left; (focus (intro w hSw; obtain ⟨⟨hS0, hS1⟩, hS2, hS3⟩ := hSw; go_simp <;> with_reducible rfl)))
                  | refine held_pass 2 62 rfl rfl (by kernel_rfl) (by kernel_rfl) (by kernel_rfl) (fun _ _ _ h => h) (by assumption) (by rfl) ?_
                simp only [Act.put, List.setIfInBounds_toArray, List.set_cons_zero, List.set_cons_succ]
                first
                  | (refine held_take 3 63 (v := ?_) rfl rfl (by kernel_rfl) (by kernel_rfl) (by kernel_rfl) (fun _ _ _ h => h) (by assumption) (by rfl) ?_ ?_; rotate_left; (focus (intro w hSw; obtain ⟨⟨hS0, hS1⟩, hS2, hS3⟩ := hSw; go_simp <;> with_reducible rfl)))
                  | refine held_pass 3 63 rfl rfl (by kernel_rfl) (by kernel_rfl) (by kernel_rfl) (fun _ _ _ h => h) (by assumption) (by rfl) ?_
                simp only [Act.put, List.setIfInBounds_toArray, List.set_cons_zero, List.set_cons_succ]
                first
                  | (refine held_take 4 64 (v := ?_) rfl rfl (by kernel_rfl) (by kernel_rfl) (by kernel_rfl) (fun _ _ _ h => h) (by assumption) (by rfl) ?_ ?_; rotate_left; (focus (intro w hSw; obtain ⟨⟨hS0, hS1⟩, hS2, hS3⟩ := hSw; go_simp <;> with_reducible rfl)))
                  | refine held_pass 4 64 rfl rfl (by kernel_rfl) (by kernel_rfl) (by kernel_rfl) (fun _ _ _ h => h) (by assumption) (by rfl) ?_
                simp only [Act.put, List.setIfInBounds_toArray, List.set_cons_zero, List.set_cons_succ]
                first
                  | (refine held_take 6 66 (v := ?_) rfl rfl (by kernel_rfl) (by kernel_rfl) (by kernel_rfl) (fun _ _ _ h => h) (by assumption) (by rfl) ?_ ?_; rotate_left; (focus (intro w hSw; obtain ⟨⟨hS0, hS1⟩, hS2, hS3⟩ := hSw; go_simp <;> with_reducible rfl)))
                  | refine held_pass 6 66 rfl rfl (by kernel_rfl) (by kernel_rfl) (by kernel_rfl) (fun _ _ _ h => h) (by assumption) (by rfl) ?_
                simp only [Act.put, List.setIfInBounds_toArray, List.set_cons_zero, List.set_cons_succ]
                first
                  | (refine held_take 7 67 (v := ?_) rfl rfl (by kernel_rfl) (by kernel_rfl) (by kernel_rfl) (fun _ _ _ h => h) (by assumption) (by rfl) ?_ ?_; rotate_left; (focus (intro w hSw; obtain ⟨⟨hS0, hS1⟩, hS2, hS3⟩ := hSw; go_simp <;> with_reducible rfl)))
                  | refine held_pass 7 67 rfl rfl (by kernel_rfl) (by kernel_rfl) (by kernel_rfl) (fun _ _ _ h => h) (by assumption) (by rfl) ?_
                simp only [Act.put, List.setIfInBounds_toArray, List.set_cons_zero, List.set_cons_succ]
                refine wpAnyH_ready (rs := [5]) (by kernel_rfl) (by simp) (AllReadyH.cons rfl (fun K hK => ?_) AllReadyH.nil)
                try simp only [Go.wp_at_succ, Go.wp_at_zero]
                go_simp
                refine hK.out _ _ (HS.out _ ?_) (fun hHeld => ?_)
                · go_grown
                clear hK K
                try simp only [Act.put, List.setIfInBounds_toArray, List.set_cons_zero, List.set_cons_succ]
                refine wpAnyH_ready (rs := [8]) (by kernel_rfl) (by simp) (AllReadyH.cons rfl (fun K hK => ?_) AllReadyH.nil)
                refine stepApp rfl (.tmp 65) (.tmp 67) 22 22 rfl x9.heap.size 3 i0 (.int .i64 0) 1 8 Try.underlying22 hi hz0 hz1 hz2 rfl _ _ _ rfl HMADE.out _ m (intCells L) rfl HSRC.out ?c3 ?c4 ?c5 ?_
                case c3 => unfold maxLen; omega
                case c4 => omega
                case c5 => simp
                intro v2 w2 O2 G2
                obtain ⟨a2, c2, rfl⟩ := own_shape O2
                have B2 : Below x9.heap.size x9 w2 := ((Below.drew ((Below.refl _ _).alloc (Nat.le_refl _) _))).grown G2 (by simp) (fun k hk => by cases hk; exact Nat.le_refl _)
                have HB2 := Lib.hid B2
                have O2x := Lib.hid (RowI.own (L := L) (by simpa using O2))
                clear O2 G2 B2
                refine hK.out _ _ (HS.out _ HB2.out) (fun hHeld => ?_)
                clear hK K
                try simp only [Act.put, List.setIfInBounds_toArray]
                first
                  | (refine held_take 9 69 (v := ?_) rfl rfl (by kernel_rfl) (by kernel_rfl) (by kernel_rfl) (fun _ _ _ h => h) (by assumption) (by rfl) ?_ ?_; rotate_left; (focus (intro w hSw; obtain ⟨⟨hS0, hS1⟩, hS2, hS3⟩ := hSw; go_simp <;> with_reducible rfl)))
                  | refine held_pass 9 69 rfl rfl (by kernel_rfl) (by kernel_rfl) (by kernel_rfl) (fun _ _ _ h => h) (by assumption) (by rfl) ?_
                simp only [Act.put]
                first
                  | (refine held_take 10 70 (v := ?_) rfl rfl (by kernel_rfl) (by kernel_rfl) (by kernel_rfl) (fun _ _ _ h => h) (by assumption) (by rfl) ?_ ?_; rotate_left; (focus (intro w hSw; obtain ⟨⟨hS0, hS1⟩, hS2, hS3⟩ := hSw; go_simp <;> with_reducible rfl)))
                  | refine held_pass 10 70 rfl rfl (by kernel_rfl) (by kernel_rfl) (by kernel_rfl) (fun _ _ _ h => h) (by assumption) (by rfl) ?_
                simp only [Act.put]
                first
                  | (refine held_take 11 71 (v := ?_) rfl rfl (by kernel_rfl) (by kernel_rfl) (by kernel_rfl) (fun _ _ _ h => h) (by assumption) (by rfl) ?_ ?_; rotate_left; (focus (intro w hSw; obtain ⟨⟨hS0, hS1⟩, hS2, hS3⟩ := hSw; go_simp <;> with_reducible rfl)))
                  | refine held_pass 11 71 rfl rfl (by kernel_rfl) (by kernel_rfl) (by kernel_rfl) (fun _ _ _ h => h) (by assumption) (by rfl) ?_
                simp only [Act.put]
                first
                  | (refine held_take 12 72 (v := ?_) rfl rfl (by kernel_rfl) (by kernel_rfl) (by kernel_rfl) (fun _ _ _ h => h) (by assumption) (by rfl) ?_ ?_; rotate_left; (focus (intro w hSw; obtain ⟨⟨hS0, hS1⟩, hS2, hS3⟩ := hSw; go_simp <;> with_reducible rfl)))
                  | refine held_pass 12 72 rfl rfl (by kernel_rfl) (by kernel_rfl) (by kernel_rfl) (fun _ _ _ h => h) (by assumption) (by rfl) ?_
                simp only [Act.put]
                have a2' := HA.out.on (PK.out.on HB2.out).bel
                obtain ⟨_, _, _, y3, y4, y5, y6, y7, y8, y9⟩ := a2'.b.cells
                have z3 := a2'.b.free 3
                have z4 := a2'.b.free 4
                have z5 := a2'.b.free 5
                have z6 := a2'.b.free 6
                have z7 := a2'.b.free 7
                have z8 := a2'.b.free 8
                have z9 := a2'.b.free 9
                obtain ⟨k1, k2⟩ := a2'.b.voted (cv' := .slice a2 m c2) ⟨r, k, r, k, true, ec, L⟩
                have A2 := Lib.hid a2'
                have K1 := Lib.hid k1
                have K2 := Lib.hid k2
                have P2 := Lib.hid (PK.out.on HB2.out)
                have hlt := HA.out.b.lt
                have KS : Hid ((fun u => (u.cell? ⟨w.heap.size, 0, none⟩ = some (.int .i64 ec) ∧ u.cell? ⟨w.heap.size, 1, none⟩ = some (.slice a0 m c0)) ∧ u.cell? ⟨w.heap.size + 1, 0, none⟩ = some (.int .i64 r) ∧ u.cell? ⟨w.heap.size + 1, 1, none⟩ = some (.int .i64 k)) (voteW w2 p 3 ⟨r, k, r, k, true, ec, L⟩ (.slice a2 m c2))) := ⟨⟨(k2.cell (p := ⟨w.heap.size, 0, none⟩) P2.out.c.lt (by simp; omega)).trans P2.out.c.cells.1, (k2.cell (p := ⟨w.heap.size, 1, none⟩) P2.out.c.lt (by simp; omega)).trans P2.out.c.cells.2.1⟩, (k2.cell (p := ⟨w.heap.size + 1, 0, none⟩) P2.out.q.lt (by simp; omega)).trans P2.out.q.cells.1, (k2.cell (p := ⟨w.heap.size + 1, 1, none⟩) P2.out.q.lt (by simp; omega)).trans P2.out.q.cells.2.1⟩
                clear k1 k2 a2'
                refine wpAnyH_ready (rs := [13]) (by kernel_rfl) (by simp) (AllReadyH.cons rfl (fun K hK => ?_) AllReadyH.nil)
                try simp only [Go.wp_at_succ, Go.wp_at_zero]
                go_simp
                refine hK.out _ _ ?_ (fun hHeld => ?_)
                · exact KS.out
                clear hK K
                try simp only [Act.put, List.setIfInBounds_toArray, List.set_cons_zero, List.set_cons_succ]
                refine wpAnyH_done (by kernel_rfl) ?_ _
                go_wp2
                go_returns
                exact ⟨rfl, ⟨_, _, K1.out, A2.out.k.beside A2.out.b (by decide) K2.out, O2x.out.beside A2.out.b (by decide) K2.out⟩, (Only.of P2.out.bel).then K2.out (fun x _ hx => hx)⟩

end Go.Proofs.Ytaaffceanjpmbaa
