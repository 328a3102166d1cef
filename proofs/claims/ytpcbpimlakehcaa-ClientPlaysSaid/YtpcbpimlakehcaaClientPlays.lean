/-
  PROVED: casebooklaw21.ClientPlays answers true and leaves its arguments as they were, for any two numbers, any steps: the row's own reading and nothing else is assumed.
-/
import Derived.Test.YtpcbpimlakehcaaClP
import Derived.Test.YtpcbpimlakehcaaClArgs
namespace Go.Proofs.Ytpcbpimlakehcaa.ClientPlays
open Go.ChangeShapes Go.WideShapes Go.ChangeAt Go.RowKit

/-- The step's box. -/
def OB (u : World) (x : Nat) (kd nw sk cl sq k2 ri mt : Int) (dt : ByteArray) (ep : Int) (v : Value) : Prop := u.heap[x]? = some (.cells #[.int .i64 kd, .int .i64 nw, .int .i64 sk, .int .i64 cl, .int .i64 sq, .int .i64 k2, .int .i64 ri, .int .i64 mt, .string dt, .int .i64 ep, v] 44 (0, 0))
section
variable {u u' : World} {x b : Nat} {kd nw sk cl sq k2 ri mt : Int} {dt : ByteArray} {ep : Int} {v : Value}
theorem OB.on (h : OB u x kd nw sk cl sq k2 ri mt dt ep v) (hb : Below u.heap.size u u') : OB u' x kd nw sk cl sq k2 ri mt dt ep v := (hb.block x (lt_of_block h)).trans h
theorem OB.turn (h : OB u x kd nw sk cl sq k2 ri mt dt ep v) (ho : Only (· = b) u u') (hx : x ≠ b) : OB u' x kd nw sk cl sq k2 ri mt dt ep v := (ho.block x (lt_of_block h) hx).trans h
theorem OB.cells (h : OB u x kd nw sk cl sq k2 ri mt dt ep v) : u.cell? ⟨x, 0, none⟩ = some (.int .i64 kd) ∧ u.cell? ⟨x, 1, none⟩ = some (.int .i64 nw) ∧ u.cell? ⟨x, 2, none⟩ = some (.int .i64 sk) ∧ u.cell? ⟨x, 3, none⟩ = some (.int .i64 cl) ∧ u.cell? ⟨x, 4, none⟩ = some (.int .i64 sq) ∧ u.cell? ⟨x, 5, none⟩ = some (.int .i64 k2) ∧ u.cell? ⟨x, 6, none⟩ = some (.int .i64 ri) ∧ u.cell? ⟨x, 7, none⟩ = some (.int .i64 mt) ∧ u.cell? ⟨x, 8, none⟩ = some (.string dt) ∧ u.cell? ⟨x, 9, none⟩ = some (.int .i64 ep) ∧ u.cell? ⟨x, 10, none⟩ = some v := by
  have h' : u.heap[x]? = _ := h
  refine ⟨?_, ?_, ?_, ?_, ?_, ?_, ?_, ?_, ?_, ?_, ?_⟩ <;> simp [World.cell?, h']
end

set_option maxRecDepth 100000 in
set_option maxHeartbeats 4000000 in
theorem bad (x y : Int) (v : Value) (w : World) (h : ¬ (0 ≤ x ∧ x < 4 ∧ 1 ≤ y ∧ y ≤ 5)) :
    Calls Try.prog 4 #[.int .i64 x, .int .i64 y, v] w fun e w' => e = .returned (.bool true) ∧ Below w.heap.size w w' := by
  have HT := Lib.hid (fun u => told21_any u)
  have HN := Lib.hid (clnew_no x y w h)
  go_enter Try.func4, Try.ntmps4
  have h5 : x < 0 ∨ (¬ x < 0 ∧ 4 ≤ x) ∨ (¬ x < 0 ∧ ¬ 4 ≤ x ∧ y < 1) ∨ (¬ x < 0 ∧ ¬ 4 ≤ x ∧ ¬ y < 1 ∧ 5 < y) := by omega
  clear h
  rcases h5 with h1 | ⟨h1, h2⟩ | ⟨h1, h2, h3⟩ | ⟨h1, h2, h3, h4⟩
  · go_wp2_with fail
    with_reducible refine HN.out.mono ?_
    rintro e w1 ⟨rfl, rfl⟩
    go_wp2_with fail
    with_reducible refine (HT.out _).mono ?_
    rintro e w2 ⟨rfl, b2⟩
    have HB := Lib.hid b2
    clear b2
    go_wp2
    go_returns
    exact ⟨rfl, HB.out⟩
  · go_wp2_with fail
    with_reducible refine HN.out.mono ?_
    rintro e w1 ⟨rfl, rfl⟩
    go_wp2_with fail
    with_reducible refine (HT.out _).mono ?_
    rintro e w2 ⟨rfl, b2⟩
    have HB := Lib.hid b2
    clear b2
    go_wp2
    go_returns
    exact ⟨rfl, HB.out⟩
  · go_wp2_with fail
    with_reducible refine HN.out.mono ?_
    rintro e w1 ⟨rfl, rfl⟩
    go_wp2_with fail
    with_reducible refine (HT.out _).mono ?_
    rintro e w2 ⟨rfl, b2⟩
    have HB := Lib.hid b2
    clear b2
    go_wp2
    go_returns
    exact ⟨rfl, HB.out⟩
  · go_wp2_with fail
    with_reducible refine HN.out.mono ?_
    rintro e w1 ⟨rfl, rfl⟩
    go_wp2_with fail
    with_reducible refine (HT.out _).mono ?_
    rintro e w2 ⟨rfl, b2⟩
    have HB := Lib.hid b2
    clear b2
    go_wp2
    go_returns
    exact ⟨rfl, HB.out⟩

set_option maxRecDepth 100000 in
set_option maxHeartbeats 16000000 in
theorem good (x y : Nat) (v : Value) (l : List CStepV) (w : World) (hx : x < 4) (hy1 : 1 ≤ y) (hy5 : y ≤ 5) (hI : CSteps w v l) :
    Calls Try.prog 4 #[.int .i64 x, .int .i64 y, v] w fun e w' => e = .returned (.bool true) ∧ Below w.heap.size w w' := by
  have HT := Lib.hid (fun u => told21_any u)
  obtain ⟨pa, pc, rfl, hmax, hfit, hc⟩ := hI
  obtain ⟨len, hl⟩ : ∃ len, len = l.length := ⟨_, rfl⟩
  rw [← hl]
  unfold maxLen at hmax
  rw [← hl] at hmax
  have HC := Lib.hid hc
  have HL := Lib.hid hl
  have HFit := Lib.hid hfit
  have HNew : Hid (Calls Try.prog 16 #[.int .i64 x, .int .i64 y] w fun e w' => e = .returned (.tuple #[.pointer (some ⟨w.heap.size, 0, none⟩), .int .i64 0]) ∧ CO w.heap.size w w.heap.size (newCli x y) w') := (clnew_yes x y w hx hy1 hy5).mono fun _ _ ⟨he, hc, hb⟩ => ⟨he, CO.new hc hb⟩
  have x0 : ¬ (x : Int) < 0 := by omega
  have x1 : ¬ (4 : Int) ≤ (x : Int) := by omega
  have x1n : ¬ 4 ≤ x := by omega
  have y0 : ¬ (y : Int) < 1 := by omega
  have y1 : ¬ (5 : Int) < (y : Int) := by omega
  have y1n : ¬ 5 < y := by omega
  have y0n : ¬ y < 1 := by omega
  have y0m : ¬ y = 0 := by omega
  clear hc hl hfit hx hy1 hy5
  go_enter Try.func4, Try.ntmps4
  go_wp2_with fail
  with_reducible refine HNew.out.mono ?_
  rintro e w1 ⟨rfl, k1⟩
  have K1 : Hid (BO w w.heap.size w1.heap.size (newCli x y) (newCli x y) (w1.alloc (.cells #[.int .i64 x, .int .i64 y, .int .i64 0, .int .i64 0, .int .i64 0, .int .i64 0, .int .i64 0, .int .i64 0, .int .i64 0, .int .i64 0, .string ⟨#[]⟩, .int .i64 0, .slice none 0 0] 42))) :=
    ⟨k1.on ((Below.refl _ _).alloc (Nat.le_refl _) _), ⟨0, .slice none 0 0, heap_alloc_new w1 _, RowI.none _, fun h => absurd h (Nat.lt_irrefl _)⟩, k1.c.lt⟩
  clear k1 HNew
  obtain ⟨b, hb⟩ : ∃ b, b = w.heap.size := ⟨_, rfl⟩
  obtain ⟨c, hc⟩ : ∃ c, c = w1.heap.size := ⟨_, rfl⟩
  have HBW := Lib.hid hb
  go_wp2
  rw [← hc, ← hb] at K1 ⊢
  obtain ⟨w2, hw2⟩ : ∃ w2, w2 = w1.alloc (.cells #[.int .i64 x, .int .i64 y, .int .i64 0, .int .i64 0, .int .i64 0, .int .i64 0, .int .i64 0, .int .i64 0, .int .i64 0, .int .i64 0, .string ⟨#[]⟩, .int .i64 0, .slice none 0 0] 42) := ⟨_, rfl⟩
  rw [← hw2] at K1 ⊢
  clear hw2 hc hb x0 x1 x1n y0 y1 y1n y0n y0m
  go_loopw [10] (fun s10 wr => ∃ (i : Nat) (s : CliV), i ≤ len ∧ i ≤ 80 ∧ s10 = .int .i64 i ∧ Hid (s.tries ≤ 1 + i) ∧ Hid (BO w b c s s wr)) (fun s10 _ => 80 - (intOf s10).toNat)
  case atStart => exact ⟨0, newCli x y, Nat.zero_le _, Nat.zero_le _, rfl, Nat.zero_le _, K1.out⟩
  case round =>
    clear K1
    obtain ⟨i, s, hi, hi80, rfl, HF, HS⟩ := hrel
    by_cases hlt : i < len ∧ i < 80
    · obtain ⟨hl1, hl2⟩ := hlt
      have i1 : (i : Int) < (len : Int) := by omega
      have i2 : (i : Int) < 80 := by omega
      have hlL : i < l.length := by rw [← HL.out]; exact hl1
      obtain ⟨pb, off, rfl, hpb, hc⟩ := HC.out (by intro e; rw [e] at hlL; simp at hlL)
      have hcell := (hc i hlL).keep HS.out.co.bel hpb
      have hft := HFit.out _ (List.getElem_mem hlL)
      obtain ⟨⟨kd, nw, sk, ⟨cl, sq, k2, ri, mt, dt⟩, ep, v, L⟩, hst⟩ : ∃ st, st = l[i] := ⟨_, rfl⟩
      rw [← hst] at hcell hft
      unfold CStepV.fits at hft
      unfold CStepCells at hcell
      simp only at hft hcell
      obtain ⟨f0, f1, f2, f3, f4, hInts⟩ := hft
      obtain ⟨va, vc, rfl, _⟩ := id hInts
      obtain ⟨vn, hvn⟩ : ∃ n, n = L.length := ⟨_, rfl⟩
      rw [← hvn] at hcell hInts
      have HI := Lib.hid hInts
      have HD : Hid (dt.size ≤ 9223372036854775807) := f3
      have HNW : Hid (nw ≤ 9223372036854775807) := f1.2
      have HTr : Hid (s.tries ≤ 99999) := by have := HF.out; show _ ≤ _; omega
      have HOK : Hid s.ok := HS.out.co.c.ok
      have hlow := HS.out.co.low
      have hlt0 := HS.out.co.c.lt
      have hltc := HS.out.q.lt
      have hbc := HS.out.ne
      have s1 : BO w b c s s (wr.alloc (.cells #[.int .i64 kd, .int .i64 nw, .int .i64 sk, .int .i64 cl, .int .i64 sq, .int .i64 k2, .int .i64 ri, .int .i64 mt, .string dt, .int .i64 ep, .slice va vn vc] 44)) := HS.out.on ((Below.refl _ _).alloc (Nat.le_refl _) _)
      have b1 : OB (wr.alloc (.cells #[.int .i64 kd, .int .i64 nw, .int .i64 sk, .int .i64 cl, .int .i64 sq, .int .i64 k2, .int .i64 ri, .int .i64 mt, .string dt, .int .i64 ep, .slice va vn vc] 44)) wr.heap.size kd nw sk cl sq k2 ri mt dt ep (.slice va vn vc) := heap_alloc_new wr _
      obtain ⟨W1, hW1⟩ : ∃ W1, W1 = wr.alloc (.cells #[.int .i64 kd, .int .i64 nw, .int .i64 sk, .int .i64 cl, .int .i64 sq, .int .i64 k2, .int .i64 ri, .int .i64 mt, .string dt, .int .i64 ep, .slice va vn vc] 44) := ⟨_, rfl⟩
      rw [← hW1] at s1 b1
      have S1 := Lib.hid s1
      have B1 := Lib.hid b1
      have HW1 := Lib.hid hW1
      have HQ : Hid (wr.heap.size ≠ b ∧ wr.heap.size ≠ c) := by show _ ∧ _; omega
      have HIw : Hid (∀ u, Below w.heap.size w u → Ints u u.heap.size (.slice va vn vc) L) := fun u hu => (HI.out.keep hu).mono hu.size
      obtain ⟨x0, x1, x2, x3, x4, x5, x6, x7, x8, x9, x10⟩ := hcell
      clear hc hpb hlL hl1 f0 f1 f2 f3 f4 hInts hvn hst hlow hlt0 hltc hbc s1 b1 hW1
      by_cases hb1 : 100 < dt.size
      · have hb1' : (100 : Int) < (dt.size : Int) := by omega
        go_wp2_with fail
        rw [← HW1.out]
        with_reducible refine (HT.out _).mono ?_
        rintro e w9 ⟨rfl, b9⟩
        have HB9 := Lib.hid (S1.out.co.bel.trans (b9.mono (Nat.le_trans S1.out.co.le S1.out.co.bel.size)))
        clear b9
        go_wp2
        go_returns
        exact ⟨rfl, HB9.out⟩
      have hb1' : ¬ (100 : Int) < (dt.size : Int) := by omega
      by_cases hb2 : 8 < vn
      · have hb2' : (8 : Int) < (vn : Int) := by omega
        go_wp2_with fail
        rw [← HW1.out]
        with_reducible refine (HT.out _).mono ?_
        rintro e w9 ⟨rfl, b9⟩
        have HB9 := Lib.hid (S1.out.co.bel.trans (b9.mono (Nat.le_trans S1.out.co.le S1.out.co.bel.size)))
        clear b9
        go_wp2
        go_returns
        exact ⟨rfl, HB9.out⟩
      have hb2' : ¬ (8 : Int) < (vn : Int) := by omega
      clear hb1 hb2
      obtain ⟨y0, y1, y2, y3, y4, y5, y6, y7, y8, y9, y10⟩ := B1.out.cells
      by_cases hk0 : (kd == 0) = true
      · as_aux_lemma =>
          obtain ⟨t, ht⟩ : ∃ t, t = caskS s nw ⟨cl, sq, k2, ri, mt, dt⟩ := ⟨_, rfl⟩
          have FT : Hid (t.tries ≤ 1 + (i + 1)) := by have h := (caskS_fix s nw ⟨cl, sq, k2, ri, mt, dt⟩).2.2; rw [← ht] at h; have := HF.out; show _ ≤ _; omega
          have HA : Hid (Calls Try.prog 17 #[.pointer (some ⟨b, 0, none⟩), .int .i64 nw, .agg #[.int .i64 cl, .int .i64 sq, .int .i64 k2, .int .i64 ri, .int .i64 mt, .string dt]] W1 fun e w' => e = .returned (.tuple #[.int .i64 (caskTo s nw ⟨cl, sq, k2, ri, mt, dt⟩), .int .i64 (caskE s nw ⟨cl, sq, k2, ri, mt, dt⟩)]) ∧ BO w b c t s w' ∧ Only (· = b) W1 w') := by
            rw [ht]; exact boask1 S1.out nw ⟨cl, sq, k2, ri, mt, dt⟩ HD.out
          have HA2 : Hid (∀ u, BO w b c t s u → Calls Try.prog 21 #[.pointer (some ⟨c, 0, none⟩), .int .i64 nw, .agg #[.int .i64 cl, .int .i64 sq, .int .i64 k2, .int .i64 ri, .int .i64 mt, .string dt]] u fun e w' => e = .returned (.tuple #[.int .i64 (caskTo s nw ⟨cl, sq, k2, ri, mt, dt⟩), .int .i64 (caskE s nw ⟨cl, sq, k2, ri, mt, dt⟩)]) ∧ BO w b c t t w') := fun u hu => by
            have h := boask2 hu HOK.out nw ⟨cl, sq, k2, ri, mt, dt⟩ HD.out
            rw [← ht] at h
            exact h.mono fun _ _ ⟨he, hb, _⟩ => ⟨he, hb⟩
          generalize caskTo s nw ⟨cl, sq, k2, ri, mt, dt⟩ = AT at HA HA2
          generalize caskE s nw ⟨cl, sq, k2, ri, mt, dt⟩ = AE at HA HA2
          clear ht
          go_wp2_with fail
          rw [← HW1.out]
          with_reducible refine HA.out.mono ?_
          rintro e w2 ⟨rfl, k2c, o2c⟩
          have K2 := Lib.hid k2c
          have B2 := Lib.hid (B1.out.turn o2c HQ.out.1)
          clear k2c o2c HA y0 y1 y2 y3 y4 y5 y6 y7 y8 y9 y10
          obtain ⟨y0, y1, y2, y3, y4, y5, y6, y7, y8, y9, y10⟩ := B2.out.cells
          go_wp2_with fail
          with_reducible refine (HA2.out _ K2.out).mono ?_
          rintro e w3 ⟨rfl, k3c⟩
          have K3 := Lib.hid k3c
          clear k3c HA2 K2 B2 B1 y0 y1 y2 y3 y4 y5 y6 y7 y8 y9 y10
          obtain ⟨R, hR⟩ : ∃ R, R = decide (0 < t.tries) := ⟨_, rfl⟩
          obtain ⟨⟨q0, q1, qk, qi, qm, qd⟩, hq⟩ : ∃ q, q = t.q := ⟨_, rfl⟩
          have HPend : Hid (Calls Try.prog 26 #[.pointer (some ⟨b, 0, none⟩)] w3 fun e w' => e = .returned (.tuple #[.agg #[.int .i64 q0, .int .i64 q1, .int .i64 qk, .int .i64 qi, .int .i64 qm, .string qd], .bool R]) ∧ BO w b c t t w') := by
            have h := copend_r K3.out.co
            rw [← hR, ← hq] at h
            exact h.mono fun _ _ ⟨he, _, hb⟩ => ⟨he, K3.out.on hb⟩
          obtain ⟨tr, htr⟩ : ∃ n, n = t.tries := ⟨_, rfl⟩
          obtain ⟨ts, hts⟩ : ∃ n, n = t.seq := ⟨_, rfl⟩
          rw [← htr] at hR
          have HSeq : Hid (∀ u, BO w b c t t u → Calls Try.prog 27 #[.pointer (some ⟨b, 0, none⟩)] u fun e w' => e = .returned (.int .i64 ts) ∧ Below u.heap.size u w') := fun u hu => by rw [hts]; exact (coseq_r hu.co).mono fun _ _ ⟨he, hw⟩ => ⟨he, hw ▸ Below.refl _ u⟩
          have HTri : Hid (∀ u, BO w b c t t u → Calls Try.prog 20 #[.pointer (some ⟨b, 0, none⟩)] u fun e w' => e = .returned (.int .i64 tr) ∧ Below u.heap.size u w') := fun u hu => by rw [htr]; exact (cotries_r hu.co).mono fun _ _ ⟨he, hw⟩ => ⟨he, hw ▸ Below.refl _ u⟩
          have HQC : Hid (∀ u, BO w b c t t u → u.cell? ⟨c, 2, none⟩ = some (.int .i64 ts) ∧ u.cell? ⟨c, 4, none⟩ = some (.int .i64 tr) ∧ u.cell? ⟨c, 5, none⟩ = some (.int .i64 q0) ∧ u.cell? ⟨c, 6, none⟩ = some (.int .i64 q1) ∧ u.cell? ⟨c, 7, none⟩ = some (.int .i64 qk) ∧ u.cell? ⟨c, 8, none⟩ = some (.int .i64 qi) ∧ u.cell? ⟨c, 9, none⟩ = some (.int .i64 qm) ∧ u.cell? ⟨c, 10, none⟩ = some (.string qd)) := fun u hu => by
            obtain ⟨a, kv, hb, -⟩ := hu.q
            obtain ⟨_, _, c2, _, c4, c5, c6, c7, c8, c9, c10, _⟩ := QClB.cells hb
            rw [← hq] at c5 c6 c7 c8 c9 c10
            rw [hts, htr]
            exact ⟨c2, c4, c5, c6, c7, c8, c9, c10⟩
          clear hq htr hts
          go_wp2_with fail
          with_reducible refine HPend.out.mono ?_
          rintro e wp ⟨rfl, kp⟩
          have KP : Hid (BO w b c t t (wp.alloc (.cells #[.int .i64 q0, .int .i64 q1, .int .i64 qk, .int .i64 qi, .int .i64 qm, .string qd] 33))) := kp.on ((Below.refl _ _).alloc (Nat.le_refl _) _)
          have XP : Hid (RqAt (wp.alloc (.cells #[.int .i64 q0, .int .i64 q1, .int .i64 qk, .int .i64 qi, .int .i64 qm, .string qd] 33)) wp.heap.size ⟨q0, q1, qk, qi, qm, qd⟩) := heap_alloc_new wp _
          clear kp HPend K3
          obtain ⟨W4, hW4⟩ : ∃ W4, W4 = wp.alloc (.cells #[.int .i64 q0, .int .i64 q1, .int .i64 qk, .int .i64 qi, .int .i64 qm, .string qd] 33) := ⟨_, rfl⟩
          rw [← hW4] at KP XP
          have HW4 := Lib.hid hW4
          clear hW4
          have FX : Hid (∀ u, Below W4.heap.size W4 u → (u.cell? ⟨wp.heap.size, 0, none⟩ = some (.int .i64 q0) ∧ u.cell? ⟨wp.heap.size, 1, none⟩ = some (.int .i64 q1) ∧ u.cell? ⟨wp.heap.size, 2, none⟩ = some (.int .i64 qk) ∧ u.cell? ⟨wp.heap.size, 3, none⟩ = some (.int .i64 qi) ∧ u.cell? ⟨wp.heap.size, 4, none⟩ = some (.int .i64 qm) ∧ u.cell? ⟨wp.heap.size, 5, none⟩ = some (.string qd)) ∧
              u.cell? ⟨c, 2, none⟩ = some (.int .i64 ts) ∧ u.cell? ⟨c, 4, none⟩ = some (.int .i64 tr) ∧ u.cell? ⟨c, 5, none⟩ = some (.int .i64 q0) ∧ u.cell? ⟨c, 6, none⟩ = some (.int .i64 q1) ∧ u.cell? ⟨c, 7, none⟩ = some (.int .i64 qk) ∧ u.cell? ⟨c, 8, none⟩ = some (.int .i64 qi) ∧ u.cell? ⟨c, 9, none⟩ = some (.int .i64 qm) ∧ u.cell? ⟨c, 10, none⟩ = some (.string qd)) := fun u hu => ⟨(XP.out.on hu).cells, HQC.out u (KP.out.on hu)⟩
          have HE : Hid (∀ u, (binOp .neq 33 (.agg #[.int .i64 q0, .int .i64 q1, .int .i64 qk, .int .i64 qi, .int .i64 qm, .string qd]) (.agg #[.int .i64 q0, .int .i64 q1, .int .i64 qk, .int .i64 qi, .int .i64 qm, .string qd])).run Try.prog u = .ok (.bool false) u) := fun u => run_ne_self q0 q1 qk qi qm qd u
          clear HQC
          cases R
          · have g1 : ¬ 0 < tr := of_decide_eq_false hR.symm
            have g2 : ¬ (0 : Int) < (tr : Int) := by omega
            clear hR
            go_wp2_with fail
            rw [← HW4.out]
            clear HW4
            refine region_quiet (fun v => Below W4.heap.size W4 v) (by kernel_rfl) (by kernel_rfl) (Below.refl _ _).drew ?_
            repeat (first
              | go_big_quiet_skip
              | (go_big_quiet_want
                 (first
                  | (refine quiet_run (v := ?_) ?_ ?_; rotate_left; (intro u hu; obtain ⟨⟨p0, p1, p2, p3, p4, p5⟩, c2, c4, c5, c6, c7, c8, c9, c10⟩ := FX.out u hu; go_simp <;> with_reducible rfl); simp only [Act.put, List.setIfInBounds_toArray, List.set_cons_zero, List.set_cons_succ]; go_big_quiet_on)
                  | (refine quiet_enter 27 _ ?_ (fun u hu => (HSeq.out u (KP.out.on hu)).mono fun e u' ⟨he, hb⟩ => ⟨he, hu.trans (hb.mono hu.size)⟩) ?_; (focus (intro u; first | (go_simp; done) | (go_simp; with_reducible rfl))); simp only [Act.put, List.setIfInBounds_toArray, List.set_cons_zero, List.set_cons_succ]; go_big_quiet_on)
                  | (refine quiet_enter 20 _ ?_ (fun u hu => (HTri.out u (KP.out.on hu)).mono fun e u' ⟨he, hb⟩ => ⟨he, hu.trans (hb.mono hu.size)⟩) ?_; (focus (intro u; first | (go_simp; done) | (go_simp; with_reducible rfl))); simp only [Act.put, List.setIfInBounds_toArray, List.set_cons_zero, List.set_cons_succ]; go_big_quiet_on)
                  | (refine quiet_run (v := .bool false) (fun u _ => exec_ne_both _ _ (by kernel_rfl) rfl rfl rfl (HE.out u)) ?_; simp only [Act.put, List.setIfInBounds_toArray, List.set_cons_zero, List.set_cons_succ]; go_big_quiet_on))))
            refine wpQuiet_nil ?_
            intro w6 h6
            have K6 := Lib.hid (KP.out.on h6)
            clear FX h6 KP XP HSeq HTri HE
            go_wp2
            go_roundw
            case rel => first | exact ⟨i + 1, t, by omega, by omega, (show (Value.int .i64 ((i : Int) + 1)) = .int .i64 ((i + 1 : Nat) : Int) from rfl), FT.out, K6.out⟩ | ((repeat apply Exists.intro); exact ⟨⟨i + 1, t, by omega, by omega, (show (Value.int .i64 ((i : Int) + 1)) = .int .i64 ((i + 1 : Nat) : Int) from rfl), FT.out, K6.out⟩, rfl⟩)
            case measure => simp [intOf]; omega
          · have g1 : 0 < tr := of_decide_eq_true hR.symm
            have g2 : (0 : Int) < (tr : Int) := by omega
            clear hR
            go_wp2_with fail
            rw [← HW4.out]
            clear HW4
            refine region_quiet (fun v => Below W4.heap.size W4 v) (by kernel_rfl) (by kernel_rfl) (Below.refl _ _).drew ?_
            repeat (first
              | go_big_quiet_skip
              | (go_big_quiet_want
                 (first
                  | (refine quiet_run (v := ?_) ?_ ?_; rotate_left; (intro u hu; obtain ⟨⟨p0, p1, p2, p3, p4, p5⟩, c2, c4, c5, c6, c7, c8, c9, c10⟩ := FX.out u hu; go_simp <;> with_reducible rfl); simp only [Act.put, List.setIfInBounds_toArray, List.set_cons_zero, List.set_cons_succ]; go_big_quiet_on)
                  | (refine quiet_enter 27 _ ?_ (fun u hu => (HSeq.out u (KP.out.on hu)).mono fun e u' ⟨he, hb⟩ => ⟨he, hu.trans (hb.mono hu.size)⟩) ?_; (focus (intro u; first | (go_simp; done) | (go_simp; with_reducible rfl))); simp only [Act.put, List.setIfInBounds_toArray, List.set_cons_zero, List.set_cons_succ]; go_big_quiet_on)
                  | (refine quiet_enter 20 _ ?_ (fun u hu => (HTri.out u (KP.out.on hu)).mono fun e u' ⟨he, hb⟩ => ⟨he, hu.trans (hb.mono hu.size)⟩) ?_; (focus (intro u; first | (go_simp; done) | (go_simp; with_reducible rfl))); simp only [Act.put, List.setIfInBounds_toArray, List.set_cons_zero, List.set_cons_succ]; go_big_quiet_on)
                  | (refine quiet_run (v := .bool false) (fun u _ => exec_ne_both _ _ (by kernel_rfl) rfl rfl rfl (HE.out u)) ?_; simp only [Act.put, List.setIfInBounds_toArray, List.set_cons_zero, List.set_cons_succ]; go_big_quiet_on))))
            refine wpQuiet_nil ?_
            intro w6 h6
            have K6 := Lib.hid (KP.out.on h6)
            clear FX h6 KP XP HSeq HTri HE
            go_wp2
            go_roundw
            case rel => first | exact ⟨i + 1, t, by omega, by omega, (show (Value.int .i64 ((i : Int) + 1)) = .int .i64 ((i + 1 : Nat) : Int) from rfl), FT.out, K6.out⟩ | ((repeat apply Exists.intro); exact ⟨⟨i + 1, t, by omega, by omega, (show (Value.int .i64 ((i : Int) + 1)) = .int .i64 ((i + 1 : Nat) : Int) from rfl), FT.out, K6.out⟩, rfl⟩)
            case measure => simp [intOf]; omega
      have hk0' : (kd == 0) = false := by simpa using hk0
      clear hk0
      by_cases hk1 : (kd == 1) = true
      · as_aux_lemma =>
          obtain ⟨t, ht⟩ : ∃ t, t = ctickS s nw := ⟨_, rfl⟩
          have FT : Hid (t.tries ≤ 1 + (i + 1)) := by have h := (ctickS_fix s nw).2.2.1; rw [← ht] at h; have := HF.out; show _ ≤ _; omega
          have HA : Hid (Calls Try.prog 19 #[.pointer (some ⟨b, 0, none⟩), .int .i64 nw] W1 fun e w' => e = .returned (.tuple #[.int .i64 (ctickTo s nw), .bool (decide (dueV s nw))]) ∧ BO w b c t s w' ∧ Only (· = b) W1 w') := by
            rw [ht]; exact botick1 S1.out nw HNW.out HTr.out
          have HA2 : Hid (∀ u, BO w b c t s u → Calls Try.prog 22 #[.pointer (some ⟨c, 0, none⟩), .int .i64 nw] u fun e w' => e = .returned (.tuple #[.int .i64 (ctickTo s nw), .bool (decide (dueV s nw))]) ∧ BO w b c t t w') := fun u hu => by
            have h := botick2 hu HOK.out nw HNW.out HTr.out
            rw [← ht] at h
            exact h.mono fun _ _ ⟨he, hb, _⟩ => ⟨he, hb⟩
          generalize ctickTo s nw = AT at HA HA2
          generalize decide (dueV s nw) = AE at HA HA2
          clear ht
          go_wp2_with fail
          rw [← HW1.out]
          with_reducible refine HA.out.mono ?_
          rintro e w2 ⟨rfl, k2c, o2c⟩
          have K2 := Lib.hid k2c
          have B2 := Lib.hid (B1.out.turn o2c HQ.out.1)
          clear k2c o2c HA y0 y1 y2 y3 y4 y5 y6 y7 y8 y9 y10
          obtain ⟨y0, y1, y2, y3, y4, y5, y6, y7, y8, y9, y10⟩ := B2.out.cells
          go_wp2_with fail
          with_reducible refine (HA2.out _ K2.out).mono ?_
          rintro e w3 ⟨rfl, k3c⟩
          have K3 := Lib.hid k3c
          clear k3c HA2 K2 B2 B1 y0 y1 y2 y3 y4 y5 y6 y7 y8 y9 y10
          obtain ⟨R, hR⟩ : ∃ R, R = decide (0 < t.tries) := ⟨_, rfl⟩
          obtain ⟨⟨q0, q1, qk, qi, qm, qd⟩, hq⟩ : ∃ q, q = t.q := ⟨_, rfl⟩
          have HPend : Hid (Calls Try.prog 26 #[.pointer (some ⟨b, 0, none⟩)] w3 fun e w' => e = .returned (.tuple #[.agg #[.int .i64 q0, .int .i64 q1, .int .i64 qk, .int .i64 qi, .int .i64 qm, .string qd], .bool R]) ∧ BO w b c t t w') := by
            have h := copend_r K3.out.co
            rw [← hR, ← hq] at h
            exact h.mono fun _ _ ⟨he, _, hb⟩ => ⟨he, K3.out.on hb⟩
          obtain ⟨tr, htr⟩ : ∃ n, n = t.tries := ⟨_, rfl⟩
          obtain ⟨ts, hts⟩ : ∃ n, n = t.seq := ⟨_, rfl⟩
          rw [← htr] at hR
          have HSeq : Hid (∀ u, BO w b c t t u → Calls Try.prog 27 #[.pointer (some ⟨b, 0, none⟩)] u fun e w' => e = .returned (.int .i64 ts) ∧ Below u.heap.size u w') := fun u hu => by rw [hts]; exact (coseq_r hu.co).mono fun _ _ ⟨he, hw⟩ => ⟨he, hw ▸ Below.refl _ u⟩
          have HTri : Hid (∀ u, BO w b c t t u → Calls Try.prog 20 #[.pointer (some ⟨b, 0, none⟩)] u fun e w' => e = .returned (.int .i64 tr) ∧ Below u.heap.size u w') := fun u hu => by rw [htr]; exact (cotries_r hu.co).mono fun _ _ ⟨he, hw⟩ => ⟨he, hw ▸ Below.refl _ u⟩
          have HQC : Hid (∀ u, BO w b c t t u → u.cell? ⟨c, 2, none⟩ = some (.int .i64 ts) ∧ u.cell? ⟨c, 4, none⟩ = some (.int .i64 tr) ∧ u.cell? ⟨c, 5, none⟩ = some (.int .i64 q0) ∧ u.cell? ⟨c, 6, none⟩ = some (.int .i64 q1) ∧ u.cell? ⟨c, 7, none⟩ = some (.int .i64 qk) ∧ u.cell? ⟨c, 8, none⟩ = some (.int .i64 qi) ∧ u.cell? ⟨c, 9, none⟩ = some (.int .i64 qm) ∧ u.cell? ⟨c, 10, none⟩ = some (.string qd)) := fun u hu => by
            obtain ⟨a, kv, hb, -⟩ := hu.q
            obtain ⟨_, _, c2, _, c4, c5, c6, c7, c8, c9, c10, _⟩ := QClB.cells hb
            rw [← hq] at c5 c6 c7 c8 c9 c10
            rw [hts, htr]
            exact ⟨c2, c4, c5, c6, c7, c8, c9, c10⟩
          clear hq htr hts
          go_wp2_with fail
          with_reducible refine HPend.out.mono ?_
          rintro e wp ⟨rfl, kp⟩
          have KP : Hid (BO w b c t t (wp.alloc (.cells #[.int .i64 q0, .int .i64 q1, .int .i64 qk, .int .i64 qi, .int .i64 qm, .string qd] 33))) := kp.on ((Below.refl _ _).alloc (Nat.le_refl _) _)
          have XP : Hid (RqAt (wp.alloc (.cells #[.int .i64 q0, .int .i64 q1, .int .i64 qk, .int .i64 qi, .int .i64 qm, .string qd] 33)) wp.heap.size ⟨q0, q1, qk, qi, qm, qd⟩) := heap_alloc_new wp _
          clear kp HPend K3
          obtain ⟨W4, hW4⟩ : ∃ W4, W4 = wp.alloc (.cells #[.int .i64 q0, .int .i64 q1, .int .i64 qk, .int .i64 qi, .int .i64 qm, .string qd] 33) := ⟨_, rfl⟩
          rw [← hW4] at KP XP
          have HW4 := Lib.hid hW4
          clear hW4
          have FX : Hid (∀ u, Below W4.heap.size W4 u → (u.cell? ⟨wp.heap.size, 0, none⟩ = some (.int .i64 q0) ∧ u.cell? ⟨wp.heap.size, 1, none⟩ = some (.int .i64 q1) ∧ u.cell? ⟨wp.heap.size, 2, none⟩ = some (.int .i64 qk) ∧ u.cell? ⟨wp.heap.size, 3, none⟩ = some (.int .i64 qi) ∧ u.cell? ⟨wp.heap.size, 4, none⟩ = some (.int .i64 qm) ∧ u.cell? ⟨wp.heap.size, 5, none⟩ = some (.string qd)) ∧
              u.cell? ⟨c, 2, none⟩ = some (.int .i64 ts) ∧ u.cell? ⟨c, 4, none⟩ = some (.int .i64 tr) ∧ u.cell? ⟨c, 5, none⟩ = some (.int .i64 q0) ∧ u.cell? ⟨c, 6, none⟩ = some (.int .i64 q1) ∧ u.cell? ⟨c, 7, none⟩ = some (.int .i64 qk) ∧ u.cell? ⟨c, 8, none⟩ = some (.int .i64 qi) ∧ u.cell? ⟨c, 9, none⟩ = some (.int .i64 qm) ∧ u.cell? ⟨c, 10, none⟩ = some (.string qd)) := fun u hu => ⟨(XP.out.on hu).cells, HQC.out u (KP.out.on hu)⟩
          have HE : Hid (∀ u, (binOp .neq 33 (.agg #[.int .i64 q0, .int .i64 q1, .int .i64 qk, .int .i64 qi, .int .i64 qm, .string qd]) (.agg #[.int .i64 q0, .int .i64 q1, .int .i64 qk, .int .i64 qi, .int .i64 qm, .string qd])).run Try.prog u = .ok (.bool false) u) := fun u => run_ne_self q0 q1 qk qi qm qd u
          clear HQC
          cases R
          · have g1 : ¬ 0 < tr := of_decide_eq_false hR.symm
            have g2 : ¬ (0 : Int) < (tr : Int) := by omega
            clear hR
            go_wp2_with fail
            rw [← HW4.out]
            clear HW4
            refine region_quiet (fun v => Below W4.heap.size W4 v) (by kernel_rfl) (by kernel_rfl) (Below.refl _ _).drew ?_
            repeat (first
              | go_big_quiet_skip
              | (go_big_quiet_want
                 (first
                  | (refine quiet_run (v := ?_) ?_ ?_; rotate_left; (intro u hu; obtain ⟨⟨p0, p1, p2, p3, p4, p5⟩, c2, c4, c5, c6, c7, c8, c9, c10⟩ := FX.out u hu; go_simp <;> with_reducible rfl); simp only [Act.put, List.setIfInBounds_toArray, List.set_cons_zero, List.set_cons_succ]; go_big_quiet_on)
                  | (refine quiet_enter 27 _ ?_ (fun u hu => (HSeq.out u (KP.out.on hu)).mono fun e u' ⟨he, hb⟩ => ⟨he, hu.trans (hb.mono hu.size)⟩) ?_; (focus (intro u; first | (go_simp; done) | (go_simp; with_reducible rfl))); simp only [Act.put, List.setIfInBounds_toArray, List.set_cons_zero, List.set_cons_succ]; go_big_quiet_on)
                  | (refine quiet_enter 20 _ ?_ (fun u hu => (HTri.out u (KP.out.on hu)).mono fun e u' ⟨he, hb⟩ => ⟨he, hu.trans (hb.mono hu.size)⟩) ?_; (focus (intro u; first | (go_simp; done) | (go_simp; with_reducible rfl))); simp only [Act.put, List.setIfInBounds_toArray, List.set_cons_zero, List.set_cons_succ]; go_big_quiet_on)
                  | (refine quiet_run (v := .bool false) (fun u _ => exec_ne_both _ _ (by kernel_rfl) rfl rfl rfl (HE.out u)) ?_; simp only [Act.put, List.setIfInBounds_toArray, List.set_cons_zero, List.set_cons_succ]; go_big_quiet_on))))
            refine wpQuiet_nil ?_
            intro w6 h6
            have K6 := Lib.hid (KP.out.on h6)
            clear FX h6 KP XP HSeq HTri HE
            go_wp2
            go_roundw
            case rel => first | exact ⟨i + 1, t, by omega, by omega, (show (Value.int .i64 ((i : Int) + 1)) = .int .i64 ((i + 1 : Nat) : Int) from rfl), FT.out, K6.out⟩ | ((repeat apply Exists.intro); exact ⟨⟨i + 1, t, by omega, by omega, (show (Value.int .i64 ((i : Int) + 1)) = .int .i64 ((i + 1 : Nat) : Int) from rfl), FT.out, K6.out⟩, rfl⟩)
            case measure => simp [intOf]; omega
          · have g1 : 0 < tr := of_decide_eq_true hR.symm
            have g2 : (0 : Int) < (tr : Int) := by omega
            clear hR
            go_wp2_with fail
            rw [← HW4.out]
            clear HW4
            refine region_quiet (fun v => Below W4.heap.size W4 v) (by kernel_rfl) (by kernel_rfl) (Below.refl _ _).drew ?_
            repeat (first
              | go_big_quiet_skip
              | (go_big_quiet_want
                 (first
                  | (refine quiet_run (v := ?_) ?_ ?_; rotate_left; (intro u hu; obtain ⟨⟨p0, p1, p2, p3, p4, p5⟩, c2, c4, c5, c6, c7, c8, c9, c10⟩ := FX.out u hu; go_simp <;> with_reducible rfl); simp only [Act.put, List.setIfInBounds_toArray, List.set_cons_zero, List.set_cons_succ]; go_big_quiet_on)
                  | (refine quiet_enter 27 _ ?_ (fun u hu => (HSeq.out u (KP.out.on hu)).mono fun e u' ⟨he, hb⟩ => ⟨he, hu.trans (hb.mono hu.size)⟩) ?_; (focus (intro u; first | (go_simp; done) | (go_simp; with_reducible rfl))); simp only [Act.put, List.setIfInBounds_toArray, List.set_cons_zero, List.set_cons_succ]; go_big_quiet_on)
                  | (refine quiet_enter 20 _ ?_ (fun u hu => (HTri.out u (KP.out.on hu)).mono fun e u' ⟨he, hb⟩ => ⟨he, hu.trans (hb.mono hu.size)⟩) ?_; (focus (intro u; first | (go_simp; done) | (go_simp; with_reducible rfl))); simp only [Act.put, List.setIfInBounds_toArray, List.set_cons_zero, List.set_cons_succ]; go_big_quiet_on)
                  | (refine quiet_run (v := .bool false) (fun u _ => exec_ne_both _ _ (by kernel_rfl) rfl rfl rfl (HE.out u)) ?_; simp only [Act.put, List.setIfInBounds_toArray, List.set_cons_zero, List.set_cons_succ]; go_big_quiet_on))))
            refine wpQuiet_nil ?_
            intro w6 h6
            have K6 := Lib.hid (KP.out.on h6)
            clear FX h6 KP XP HSeq HTri HE
            go_wp2
            go_roundw
            case rel => first | exact ⟨i + 1, t, by omega, by omega, (show (Value.int .i64 ((i : Int) + 1)) = .int .i64 ((i + 1 : Nat) : Int) from rfl), FT.out, K6.out⟩ | ((repeat apply Exists.intro); exact ⟨⟨i + 1, t, by omega, by omega, (show (Value.int .i64 ((i : Int) + 1)) = .int .i64 ((i + 1 : Nat) : Int) from rfl), FT.out, K6.out⟩, rfl⟩)
            case measure => simp [intOf]; omega
      have hk1' : (kd == 1) = false := by simpa using hk1
      clear hk1
      by_cases hk2 : (kd == 2) = true
      · as_aux_lemma =>
          obtain ⟨t, ht⟩ : ∃ t, t = ctoldS s sk ep L := ⟨_, rfl⟩
          have FT : Hid (t.tries ≤ 1 + (i + 1)) := by have h := (ctoldS_fix s sk ep L).2.2.1; rw [← ht] at h; have := HF.out; show _ ≤ _; omega
          have HA : Hid (Calls Try.prog 18 #[.pointer (some ⟨b, 0, none⟩), .int .i64 sk, .agg #[.int .i64 ep, .slice va vn vc]] W1 fun e w' => e = .returned (.tuple #[]) ∧ BO w b c t s w' ∧ Only (· = b) W1 w') := by
            rw [ht]; exact botold1 S1.out sk ep _ L (HIw.out _ S1.out.co.bel)
          have HA2 : Hid (∀ u, BO w b c t s u → Calls Try.prog 23 #[.pointer (some ⟨c, 0, none⟩), .int .i64 sk, .agg #[.int .i64 ep, .slice va vn vc]] u fun e w' => e = .returned (.tuple #[]) ∧ BO w b c t t w') := fun u hu => by
            have h := botold2 hu HOK.out sk ep _ L (HIw.out _ hu.co.bel)
            rw [← ht] at h
            exact h.mono fun _ _ ⟨he, hb, _⟩ => ⟨he, hb⟩
          clear ht
          go_wp2_with fail
          rw [← HW1.out]
          with_reducible refine HA.out.mono ?_
          rintro e w2 ⟨rfl, k2c, o2c⟩
          have K2 := Lib.hid k2c
          have B2 := Lib.hid (B1.out.turn o2c HQ.out.1)
          clear k2c o2c HA y0 y1 y2 y3 y4 y5 y6 y7 y8 y9 y10
          obtain ⟨y0, y1, y2, y3, y4, y5, y6, y7, y8, y9, y10⟩ := B2.out.cells
          go_wp2_with fail
          with_reducible refine (HA2.out _ K2.out).mono ?_
          rintro e w3 ⟨rfl, k3c⟩
          have K3 := Lib.hid k3c
          clear k3c HA2 K2 B2 B1 y0 y1 y2 y3 y4 y5 y6 y7 y8 y9 y10
          obtain ⟨R, hR⟩ : ∃ R, R = decide (0 < t.tries) := ⟨_, rfl⟩
          obtain ⟨⟨q0, q1, qk, qi, qm, qd⟩, hq⟩ : ∃ q, q = t.q := ⟨_, rfl⟩
          have HPend : Hid (Calls Try.prog 26 #[.pointer (some ⟨b, 0, none⟩)] w3 fun e w' => e = .returned (.tuple #[.agg #[.int .i64 q0, .int .i64 q1, .int .i64 qk, .int .i64 qi, .int .i64 qm, .string qd], .bool R]) ∧ BO w b c t t w') := by
            have h := copend_r K3.out.co
            rw [← hR, ← hq] at h
            exact h.mono fun _ _ ⟨he, _, hb⟩ => ⟨he, K3.out.on hb⟩
          obtain ⟨tr, htr⟩ : ∃ n, n = t.tries := ⟨_, rfl⟩
          obtain ⟨ts, hts⟩ : ∃ n, n = t.seq := ⟨_, rfl⟩
          rw [← htr] at hR
          have HSeq : Hid (∀ u, BO w b c t t u → Calls Try.prog 27 #[.pointer (some ⟨b, 0, none⟩)] u fun e w' => e = .returned (.int .i64 ts) ∧ Below u.heap.size u w') := fun u hu => by rw [hts]; exact (coseq_r hu.co).mono fun _ _ ⟨he, hw⟩ => ⟨he, hw ▸ Below.refl _ u⟩
          have HTri : Hid (∀ u, BO w b c t t u → Calls Try.prog 20 #[.pointer (some ⟨b, 0, none⟩)] u fun e w' => e = .returned (.int .i64 tr) ∧ Below u.heap.size u w') := fun u hu => by rw [htr]; exact (cotries_r hu.co).mono fun _ _ ⟨he, hw⟩ => ⟨he, hw ▸ Below.refl _ u⟩
          have HQC : Hid (∀ u, BO w b c t t u → u.cell? ⟨c, 2, none⟩ = some (.int .i64 ts) ∧ u.cell? ⟨c, 4, none⟩ = some (.int .i64 tr) ∧ u.cell? ⟨c, 5, none⟩ = some (.int .i64 q0) ∧ u.cell? ⟨c, 6, none⟩ = some (.int .i64 q1) ∧ u.cell? ⟨c, 7, none⟩ = some (.int .i64 qk) ∧ u.cell? ⟨c, 8, none⟩ = some (.int .i64 qi) ∧ u.cell? ⟨c, 9, none⟩ = some (.int .i64 qm) ∧ u.cell? ⟨c, 10, none⟩ = some (.string qd)) := fun u hu => by
            obtain ⟨a, kv, hb, -⟩ := hu.q
            obtain ⟨_, _, c2, _, c4, c5, c6, c7, c8, c9, c10, _⟩ := QClB.cells hb
            rw [← hq] at c5 c6 c7 c8 c9 c10
            rw [hts, htr]
            exact ⟨c2, c4, c5, c6, c7, c8, c9, c10⟩
          clear hq htr hts
          go_wp2_with fail
          with_reducible refine HPend.out.mono ?_
          rintro e wp ⟨rfl, kp⟩
          have KP : Hid (BO w b c t t (wp.alloc (.cells #[.int .i64 q0, .int .i64 q1, .int .i64 qk, .int .i64 qi, .int .i64 qm, .string qd] 33))) := kp.on ((Below.refl _ _).alloc (Nat.le_refl _) _)
          have XP : Hid (RqAt (wp.alloc (.cells #[.int .i64 q0, .int .i64 q1, .int .i64 qk, .int .i64 qi, .int .i64 qm, .string qd] 33)) wp.heap.size ⟨q0, q1, qk, qi, qm, qd⟩) := heap_alloc_new wp _
          clear kp HPend K3
          obtain ⟨W4, hW4⟩ : ∃ W4, W4 = wp.alloc (.cells #[.int .i64 q0, .int .i64 q1, .int .i64 qk, .int .i64 qi, .int .i64 qm, .string qd] 33) := ⟨_, rfl⟩
          rw [← hW4] at KP XP
          have HW4 := Lib.hid hW4
          clear hW4
          have FX : Hid (∀ u, Below W4.heap.size W4 u → (u.cell? ⟨wp.heap.size, 0, none⟩ = some (.int .i64 q0) ∧ u.cell? ⟨wp.heap.size, 1, none⟩ = some (.int .i64 q1) ∧ u.cell? ⟨wp.heap.size, 2, none⟩ = some (.int .i64 qk) ∧ u.cell? ⟨wp.heap.size, 3, none⟩ = some (.int .i64 qi) ∧ u.cell? ⟨wp.heap.size, 4, none⟩ = some (.int .i64 qm) ∧ u.cell? ⟨wp.heap.size, 5, none⟩ = some (.string qd)) ∧
              u.cell? ⟨c, 2, none⟩ = some (.int .i64 ts) ∧ u.cell? ⟨c, 4, none⟩ = some (.int .i64 tr) ∧ u.cell? ⟨c, 5, none⟩ = some (.int .i64 q0) ∧ u.cell? ⟨c, 6, none⟩ = some (.int .i64 q1) ∧ u.cell? ⟨c, 7, none⟩ = some (.int .i64 qk) ∧ u.cell? ⟨c, 8, none⟩ = some (.int .i64 qi) ∧ u.cell? ⟨c, 9, none⟩ = some (.int .i64 qm) ∧ u.cell? ⟨c, 10, none⟩ = some (.string qd)) := fun u hu => ⟨(XP.out.on hu).cells, HQC.out u (KP.out.on hu)⟩
          have HE : Hid (∀ u, (binOp .neq 33 (.agg #[.int .i64 q0, .int .i64 q1, .int .i64 qk, .int .i64 qi, .int .i64 qm, .string qd]) (.agg #[.int .i64 q0, .int .i64 q1, .int .i64 qk, .int .i64 qi, .int .i64 qm, .string qd])).run Try.prog u = .ok (.bool false) u) := fun u => run_ne_self q0 q1 qk qi qm qd u
          clear HQC
          cases R
          · have g1 : ¬ 0 < tr := of_decide_eq_false hR.symm
            have g2 : ¬ (0 : Int) < (tr : Int) := by omega
            clear hR
            go_wp2_with fail
            rw [← HW4.out]
            clear HW4
            refine region_quiet (fun v => Below W4.heap.size W4 v) (by kernel_rfl) (by kernel_rfl) (Below.refl _ _).drew ?_
            repeat (first
              | go_big_quiet_skip
              | (go_big_quiet_want
                 (first
                  | (refine quiet_run (v := ?_) ?_ ?_; rotate_left; (intro u hu; obtain ⟨⟨p0, p1, p2, p3, p4, p5⟩, c2, c4, c5, c6, c7, c8, c9, c10⟩ := FX.out u hu; go_simp <;> with_reducible rfl); simp only [Act.put, List.setIfInBounds_toArray, List.set_cons_zero, List.set_cons_succ]; go_big_quiet_on)
                  | (refine quiet_enter 27 _ ?_ (fun u hu => (HSeq.out u (KP.out.on hu)).mono fun e u' ⟨he, hb⟩ => ⟨he, hu.trans (hb.mono hu.size)⟩) ?_; (focus (intro u; first | (go_simp; done) | (go_simp; with_reducible rfl))); simp only [Act.put, List.setIfInBounds_toArray, List.set_cons_zero, List.set_cons_succ]; go_big_quiet_on)
                  | (refine quiet_enter 20 _ ?_ (fun u hu => (HTri.out u (KP.out.on hu)).mono fun e u' ⟨he, hb⟩ => ⟨he, hu.trans (hb.mono hu.size)⟩) ?_; (focus (intro u; first | (go_simp; done) | (go_simp; with_reducible rfl))); simp only [Act.put, List.setIfInBounds_toArray, List.set_cons_zero, List.set_cons_succ]; go_big_quiet_on)
                  | (refine quiet_run (v := .bool false) (fun u _ => exec_ne_both _ _ (by kernel_rfl) rfl rfl rfl (HE.out u)) ?_; simp only [Act.put, List.setIfInBounds_toArray, List.set_cons_zero, List.set_cons_succ]; go_big_quiet_on))))
            refine wpQuiet_nil ?_
            intro w6 h6
            have K6 := Lib.hid (KP.out.on h6)
            clear FX h6 KP XP HSeq HTri HE
            go_wp2
            go_roundw
            case rel => first | exact ⟨i + 1, t, by omega, by omega, (show (Value.int .i64 ((i : Int) + 1)) = .int .i64 ((i + 1 : Nat) : Int) from rfl), FT.out, K6.out⟩ | ((repeat apply Exists.intro); exact ⟨⟨i + 1, t, by omega, by omega, (show (Value.int .i64 ((i : Int) + 1)) = .int .i64 ((i + 1 : Nat) : Int) from rfl), FT.out, K6.out⟩, rfl⟩)
            case measure => simp [intOf]; omega
          · have g1 : 0 < tr := of_decide_eq_true hR.symm
            have g2 : (0 : Int) < (tr : Int) := by omega
            clear hR
            go_wp2_with fail
            rw [← HW4.out]
            clear HW4
            refine region_quiet (fun v => Below W4.heap.size W4 v) (by kernel_rfl) (by kernel_rfl) (Below.refl _ _).drew ?_
            repeat (first
              | go_big_quiet_skip
              | (go_big_quiet_want
                 (first
                  | (refine quiet_run (v := ?_) ?_ ?_; rotate_left; (intro u hu; obtain ⟨⟨p0, p1, p2, p3, p4, p5⟩, c2, c4, c5, c6, c7, c8, c9, c10⟩ := FX.out u hu; go_simp <;> with_reducible rfl); simp only [Act.put, List.setIfInBounds_toArray, List.set_cons_zero, List.set_cons_succ]; go_big_quiet_on)
                  | (refine quiet_enter 27 _ ?_ (fun u hu => (HSeq.out u (KP.out.on hu)).mono fun e u' ⟨he, hb⟩ => ⟨he, hu.trans (hb.mono hu.size)⟩) ?_; (focus (intro u; first | (go_simp; done) | (go_simp; with_reducible rfl))); simp only [Act.put, List.setIfInBounds_toArray, List.set_cons_zero, List.set_cons_succ]; go_big_quiet_on)
                  | (refine quiet_enter 20 _ ?_ (fun u hu => (HTri.out u (KP.out.on hu)).mono fun e u' ⟨he, hb⟩ => ⟨he, hu.trans (hb.mono hu.size)⟩) ?_; (focus (intro u; first | (go_simp; done) | (go_simp; with_reducible rfl))); simp only [Act.put, List.setIfInBounds_toArray, List.set_cons_zero, List.set_cons_succ]; go_big_quiet_on)
                  | (refine quiet_run (v := .bool false) (fun u _ => exec_ne_both _ _ (by kernel_rfl) rfl rfl rfl (HE.out u)) ?_; simp only [Act.put, List.setIfInBounds_toArray, List.set_cons_zero, List.set_cons_succ]; go_big_quiet_on))))
            refine wpQuiet_nil ?_
            intro w6 h6
            have K6 := Lib.hid (KP.out.on h6)
            clear FX h6 KP XP HSeq HTri HE
            go_wp2
            go_roundw
            case rel => first | exact ⟨i + 1, t, by omega, by omega, (show (Value.int .i64 ((i : Int) + 1)) = .int .i64 ((i + 1 : Nat) : Int) from rfl), FT.out, K6.out⟩ | ((repeat apply Exists.intro); exact ⟨⟨i + 1, t, by omega, by omega, (show (Value.int .i64 ((i : Int) + 1)) = .int .i64 ((i + 1 : Nat) : Int) from rfl), FT.out, K6.out⟩, rfl⟩)
            case measure => simp [intOf]; omega
      have hk2' : (kd == 2) = false := by simpa using hk2
      clear hk2
      as_aux_lemma =>
        obtain ⟨t, ht⟩ : ∃ t, t = cansS s sk := ⟨_, rfl⟩
        have FT : Hid (t.tries ≤ 1 + (i + 1)) := by have h := (cansS_fix s sk).2.2.1; rw [← ht] at h; have := HF.out; show _ ≤ _; omega
        have HA : Hid (∀ u, BO w b c s s u → Calls Try.prog 24 #[.pointer (some ⟨b, 0, none⟩), .int .i64 sk] u fun e w' => e = .returned (.bool (decide (forV s sk))) ∧ BO w b c t s w' ∧ Only (· = b) u w') := fun u hu => by
          rw [ht]; exact boans1 hu sk
        have HA2 : Hid (∀ u, BO w b c t s u → Calls Try.prog 25 #[.pointer (some ⟨c, 0, none⟩), .int .i64 sk] u fun e w' => e = .returned (.bool (decide (forV s sk))) ∧ BO w b c t t w' ∧ Only (· = c) u w') := fun u hu => by
          have h := boans2 hu HOK.out sk
          rw [← ht] at h
          exact h
        generalize decide (forV s sk) = AE at HA HA2
        have SD : Hid (BO w b c s s W1.drew) := S1.out.on (Below.refl _ _).drew
        have BD : Hid (OB W1.drew wr.heap.size kd nw sk cl sq k2 ri mt dt ep (.slice va vn vc)) := B1.out.on (Below.refl _ _).drew
        clear ht
        go_wp2_with fail
        rw [← HW1.out]
        clear y0 y1 y2 y3 y4 y5 y6 y7 y8 y9 y10
        refine wp_region_held_drew (S := fun u => u.cell? ⟨wr.heap.size, 2, none⟩ = some (.int .i64 sk)) (by kernel_rfl) (BD.out.cells.2.2.1) (fun hHeld => ?_)
        first
          | (refine held_take 0 90 (v := ?_) rfl rfl (by kernel_rfl) (by kernel_rfl) (by kernel_rfl) (fun _ _ _ h => h) (by assumption) (by rfl) ?_ ?_; rotate_left; (focus (intro w hSw; skip; go_simp <;> with_reducible rfl)))
          | refine held_pass 0 90 rfl rfl (by kernel_rfl) (by kernel_rfl) (by kernel_rfl) (fun _ _ _ h => h) (by assumption) (by rfl) ?_
        simp only [Act.put, List.setIfInBounds_toArray, List.set_cons_zero, List.set_cons_succ]
        first
          | (refine held_take 1 91 (v := ?_) rfl rfl (by kernel_rfl) (by kernel_rfl) (by kernel_rfl) (fun _ _ _ h => h) (by assumption) (by rfl) ?_ ?_; rotate_left; (focus (intro w hSw; skip; go_simp <;> with_reducible rfl)))
          | refine held_pass 1 91 rfl rfl (by kernel_rfl) (by kernel_rfl) (by kernel_rfl) (fun _ _ _ h => h) (by assumption) (by rfl) ?_
        simp only [Act.put, List.setIfInBounds_toArray, List.set_cons_zero, List.set_cons_succ]
        first
          | (refine held_take 2 92 (v := ?_) rfl rfl (by kernel_rfl) (by kernel_rfl) (by kernel_rfl) (fun _ _ _ h => h) (by assumption) (by rfl) ?_ ?_; rotate_left; (focus (intro w hSw; skip; go_simp <;> with_reducible rfl)))
          | refine held_pass 2 92 rfl rfl (by kernel_rfl) (by kernel_rfl) (by kernel_rfl) (fun _ _ _ h => h) (by assumption) (by rfl) ?_
        simp only [Act.put, List.setIfInBounds_toArray, List.set_cons_zero, List.set_cons_succ]
        first
          | (refine held_take 4 94 (v := ?_) rfl rfl (by kernel_rfl) (by kernel_rfl) (by kernel_rfl) (fun _ _ _ h => h) (by assumption) (by rfl) ?_ ?_; rotate_left; (focus (intro w hSw; skip; go_simp <;> with_reducible rfl)))
          | refine held_pass 4 94 rfl rfl (by kernel_rfl) (by kernel_rfl) (by kernel_rfl) (fun _ _ _ h => h) (by assumption) (by rfl) ?_
        simp only [Act.put, List.setIfInBounds_toArray, List.set_cons_zero, List.set_cons_succ]
        first
          | (refine held_take 5 95 (v := ?_) rfl rfl (by kernel_rfl) (by kernel_rfl) (by kernel_rfl) (fun _ _ _ h => h) (by assumption) (by rfl) ?_ ?_; rotate_left; (focus (intro w hSw; skip; go_simp <;> with_reducible rfl)))
          | refine held_pass 5 95 rfl rfl (by kernel_rfl) (by kernel_rfl) (by kernel_rfl) (fun _ _ _ h => h) (by assumption) (by rfl) ?_
        simp only [Act.put, List.setIfInBounds_toArray, List.set_cons_zero, List.set_cons_succ]
        first
          | (refine held_take 6 96 (v := ?_) rfl rfl (by kernel_rfl) (by kernel_rfl) (by kernel_rfl) (fun _ _ _ h => h) (by assumption) (by rfl) ?_ ?_; rotate_left; (focus (intro w hSw; skip; go_simp <;> with_reducible rfl)))
          | refine held_pass 6 96 rfl rfl (by kernel_rfl) (by kernel_rfl) (by kernel_rfl) (fun _ _ _ h => h) (by assumption) (by rfl) ?_
        simp only [Act.put, List.setIfInBounds_toArray, List.set_cons_zero, List.set_cons_succ]
        refine held_call 3 93 rfl rfl (by kernel_rfl) (by rfl) (fun K hK => ?_)
        simp only [Go.wp_at_succ, Go.wp_at_zero]
        go_simp
        go_at_call 24
        (with_reducible refine (HA.out _ SD.out).mono ?_)
        rintro e u1 ⟨rfl, k1c, o1c⟩
        have K2 := Lib.hid k1c
        have B2 := Lib.hid (BD.out.turn o1c HQ.out.1)
        clear k1c o1c
        first | (with_reducible refine hK.out _ _ ?_ (fun hHeld => ?_)) | (go_wp2_with fail; refine hK.out _ _ ?_ (fun hHeld => ?_))
        · exact B2.out.cells.2.2.1
        clear hK K
        try simp only [Act.put, List.setIfInBounds_toArray, List.set_cons_zero, List.set_cons_succ]
        refine held_call 7 97 rfl rfl (by kernel_rfl) (by rfl) (fun K hK => ?_)
        simp only [Go.wp_at_succ, Go.wp_at_zero]
        go_simp
        go_at_call 25
        (with_reducible refine (HA2.out _ K2.out).mono ?_)
        rintro e w3 ⟨rfl, k2c, o2c⟩
        have K3 := Lib.hid k2c
        have B3 := Lib.hid (B2.out.turn o2c HQ.out.2)
        clear k2c o2c
        first | (with_reducible refine hK.out _ _ ?_ (fun hHeld => ?_)) | (go_wp2_with fail; refine hK.out _ _ ?_ (fun hHeld => ?_))
        · exact B3.out.cells.2.2.1
        clear hK K
        try simp only [Act.put, List.setIfInBounds_toArray, List.set_cons_zero, List.set_cons_succ]
        first
          | (refine held_take 8 98 (v := ?_) rfl rfl (by kernel_rfl) (by kernel_rfl) (by kernel_rfl) (fun _ _ _ h => h) (by assumption) (by rfl) ?_ ?_; rotate_left; (focus (intro w hSw; skip; go_simp <;> with_reducible rfl)))
          | refine held_pass 8 98 rfl rfl (by kernel_rfl) (by kernel_rfl) (by kernel_rfl) (fun _ _ _ h => h) (by assumption) (by rfl) ?_
        simp only [Act.put, List.setIfInBounds_toArray, List.set_cons_zero, List.set_cons_succ]
        refine wpAnyH_done (by kernel_rfl) ?_ _
        clear hHeld BD SD B2 B3 K2 B1
        have hAE : (AE != AE) = false := by cases AE <;> rfl
        obtain ⟨R, hR⟩ : ∃ R, R = decide (0 < t.tries) := ⟨_, rfl⟩
        obtain ⟨⟨q0, q1, qk, qi, qm, qd⟩, hq⟩ : ∃ q, q = t.q := ⟨_, rfl⟩
        have HPend : Hid (Calls Try.prog 26 #[.pointer (some ⟨b, 0, none⟩)] w3 fun e w' => e = .returned (.tuple #[.agg #[.int .i64 q0, .int .i64 q1, .int .i64 qk, .int .i64 qi, .int .i64 qm, .string qd], .bool R]) ∧ BO w b c t t w') := by
          have h := copend_r K3.out.co
          rw [← hR, ← hq] at h
          exact h.mono fun _ _ ⟨he, _, hb⟩ => ⟨he, K3.out.on hb⟩
        obtain ⟨tr, htr⟩ : ∃ n, n = t.tries := ⟨_, rfl⟩
        obtain ⟨ts, hts⟩ : ∃ n, n = t.seq := ⟨_, rfl⟩
        rw [← htr] at hR
        have HSeq : Hid (∀ u, BO w b c t t u → Calls Try.prog 27 #[.pointer (some ⟨b, 0, none⟩)] u fun e w' => e = .returned (.int .i64 ts) ∧ Below u.heap.size u w') := fun u hu => by rw [hts]; exact (coseq_r hu.co).mono fun _ _ ⟨he, hw⟩ => ⟨he, hw ▸ Below.refl _ u⟩
        have HTri : Hid (∀ u, BO w b c t t u → Calls Try.prog 20 #[.pointer (some ⟨b, 0, none⟩)] u fun e w' => e = .returned (.int .i64 tr) ∧ Below u.heap.size u w') := fun u hu => by rw [htr]; exact (cotries_r hu.co).mono fun _ _ ⟨he, hw⟩ => ⟨he, hw ▸ Below.refl _ u⟩
        have HQC : Hid (∀ u, BO w b c t t u → u.cell? ⟨c, 2, none⟩ = some (.int .i64 ts) ∧ u.cell? ⟨c, 4, none⟩ = some (.int .i64 tr) ∧ u.cell? ⟨c, 5, none⟩ = some (.int .i64 q0) ∧ u.cell? ⟨c, 6, none⟩ = some (.int .i64 q1) ∧ u.cell? ⟨c, 7, none⟩ = some (.int .i64 qk) ∧ u.cell? ⟨c, 8, none⟩ = some (.int .i64 qi) ∧ u.cell? ⟨c, 9, none⟩ = some (.int .i64 qm) ∧ u.cell? ⟨c, 10, none⟩ = some (.string qd)) := fun u hu => by
          obtain ⟨a, kv, hb, -⟩ := hu.q
          obtain ⟨_, _, c2, _, c4, c5, c6, c7, c8, c9, c10, _⟩ := QClB.cells hb
          rw [← hq] at c5 c6 c7 c8 c9 c10
          rw [hts, htr]
          exact ⟨c2, c4, c5, c6, c7, c8, c9, c10⟩
        clear hq htr hts
        go_wp2_with fail
        with_reducible refine HPend.out.mono ?_
        rintro e wp ⟨rfl, kp⟩
        have KP : Hid (BO w b c t t (wp.alloc (.cells #[.int .i64 q0, .int .i64 q1, .int .i64 qk, .int .i64 qi, .int .i64 qm, .string qd] 33))) := kp.on ((Below.refl _ _).alloc (Nat.le_refl _) _)
        have XP : Hid (RqAt (wp.alloc (.cells #[.int .i64 q0, .int .i64 q1, .int .i64 qk, .int .i64 qi, .int .i64 qm, .string qd] 33)) wp.heap.size ⟨q0, q1, qk, qi, qm, qd⟩) := heap_alloc_new wp _
        clear kp HPend K3
        obtain ⟨W4, hW4⟩ : ∃ W4, W4 = wp.alloc (.cells #[.int .i64 q0, .int .i64 q1, .int .i64 qk, .int .i64 qi, .int .i64 qm, .string qd] 33) := ⟨_, rfl⟩
        rw [← hW4] at KP XP
        have HW4 := Lib.hid hW4
        clear hW4
        have FX : Hid (∀ u, Below W4.heap.size W4 u → (u.cell? ⟨wp.heap.size, 0, none⟩ = some (.int .i64 q0) ∧ u.cell? ⟨wp.heap.size, 1, none⟩ = some (.int .i64 q1) ∧ u.cell? ⟨wp.heap.size, 2, none⟩ = some (.int .i64 qk) ∧ u.cell? ⟨wp.heap.size, 3, none⟩ = some (.int .i64 qi) ∧ u.cell? ⟨wp.heap.size, 4, none⟩ = some (.int .i64 qm) ∧ u.cell? ⟨wp.heap.size, 5, none⟩ = some (.string qd)) ∧
            u.cell? ⟨c, 2, none⟩ = some (.int .i64 ts) ∧ u.cell? ⟨c, 4, none⟩ = some (.int .i64 tr) ∧ u.cell? ⟨c, 5, none⟩ = some (.int .i64 q0) ∧ u.cell? ⟨c, 6, none⟩ = some (.int .i64 q1) ∧ u.cell? ⟨c, 7, none⟩ = some (.int .i64 qk) ∧ u.cell? ⟨c, 8, none⟩ = some (.int .i64 qi) ∧ u.cell? ⟨c, 9, none⟩ = some (.int .i64 qm) ∧ u.cell? ⟨c, 10, none⟩ = some (.string qd)) := fun u hu => ⟨(XP.out.on hu).cells, HQC.out u (KP.out.on hu)⟩
        have HE : Hid (∀ u, (binOp .neq 33 (.agg #[.int .i64 q0, .int .i64 q1, .int .i64 qk, .int .i64 qi, .int .i64 qm, .string qd]) (.agg #[.int .i64 q0, .int .i64 q1, .int .i64 qk, .int .i64 qi, .int .i64 qm, .string qd])).run Try.prog u = .ok (.bool false) u) := fun u => run_ne_self q0 q1 qk qi qm qd u
        clear HQC
        cases R
        · have g1 : ¬ 0 < tr := of_decide_eq_false hR.symm
          have g2 : ¬ (0 : Int) < (tr : Int) := by omega
          clear hR
          go_wp2_with fail
          rw [← HW4.out]
          clear HW4
          refine region_quiet (fun v => Below W4.heap.size W4 v) (by kernel_rfl) (by kernel_rfl) (Below.refl _ _).drew ?_
          repeat (first
            | go_big_quiet_skip
            | (go_big_quiet_want
               (first
                | (refine quiet_run (v := ?_) ?_ ?_; rotate_left; (intro u hu; obtain ⟨⟨p0, p1, p2, p3, p4, p5⟩, c2, c4, c5, c6, c7, c8, c9, c10⟩ := FX.out u hu; go_simp <;> with_reducible rfl); simp only [Act.put, List.setIfInBounds_toArray, List.set_cons_zero, List.set_cons_succ]; go_big_quiet_on)
                | (refine quiet_enter 27 _ ?_ (fun u hu => (HSeq.out u (KP.out.on hu)).mono fun e u' ⟨he, hb⟩ => ⟨he, hu.trans (hb.mono hu.size)⟩) ?_; (focus (intro u; first | (go_simp; done) | (go_simp; with_reducible rfl))); simp only [Act.put, List.setIfInBounds_toArray, List.set_cons_zero, List.set_cons_succ]; go_big_quiet_on)
                | (refine quiet_enter 20 _ ?_ (fun u hu => (HTri.out u (KP.out.on hu)).mono fun e u' ⟨he, hb⟩ => ⟨he, hu.trans (hb.mono hu.size)⟩) ?_; (focus (intro u; first | (go_simp; done) | (go_simp; with_reducible rfl))); simp only [Act.put, List.setIfInBounds_toArray, List.set_cons_zero, List.set_cons_succ]; go_big_quiet_on)
                | (refine quiet_run (v := .bool false) (fun u _ => exec_ne_both _ _ (by kernel_rfl) rfl rfl rfl (HE.out u)) ?_; simp only [Act.put, List.setIfInBounds_toArray, List.set_cons_zero, List.set_cons_succ]; go_big_quiet_on))))
          refine wpQuiet_nil ?_
          intro w6 h6
          have K6 := Lib.hid (KP.out.on h6)
          clear FX h6 KP XP HSeq HTri HE
          go_wp2
          go_roundw
          case rel => first | exact ⟨i + 1, t, by omega, by omega, (show (Value.int .i64 ((i : Int) + 1)) = .int .i64 ((i + 1 : Nat) : Int) from rfl), FT.out, K6.out⟩ | ((repeat apply Exists.intro); exact ⟨⟨i + 1, t, by omega, by omega, (show (Value.int .i64 ((i : Int) + 1)) = .int .i64 ((i + 1 : Nat) : Int) from rfl), FT.out, K6.out⟩, rfl⟩)
          case measure => simp [intOf]; omega
        · have g1 : 0 < tr := of_decide_eq_true hR.symm
          have g2 : (0 : Int) < (tr : Int) := by omega
          clear hR
          go_wp2_with fail
          rw [← HW4.out]
          clear HW4
          refine region_quiet (fun v => Below W4.heap.size W4 v) (by kernel_rfl) (by kernel_rfl) (Below.refl _ _).drew ?_
          repeat (first
            | go_big_quiet_skip
            | (go_big_quiet_want
               (first
                | (refine quiet_run (v := ?_) ?_ ?_; rotate_left; (intro u hu; obtain ⟨⟨p0, p1, p2, p3, p4, p5⟩, c2, c4, c5, c6, c7, c8, c9, c10⟩ := FX.out u hu; go_simp <;> with_reducible rfl); simp only [Act.put, List.setIfInBounds_toArray, List.set_cons_zero, List.set_cons_succ]; go_big_quiet_on)
                | (refine quiet_enter 27 _ ?_ (fun u hu => (HSeq.out u (KP.out.on hu)).mono fun e u' ⟨he, hb⟩ => ⟨he, hu.trans (hb.mono hu.size)⟩) ?_; (focus (intro u; first | (go_simp; done) | (go_simp; with_reducible rfl))); simp only [Act.put, List.setIfInBounds_toArray, List.set_cons_zero, List.set_cons_succ]; go_big_quiet_on)
                | (refine quiet_enter 20 _ ?_ (fun u hu => (HTri.out u (KP.out.on hu)).mono fun e u' ⟨he, hb⟩ => ⟨he, hu.trans (hb.mono hu.size)⟩) ?_; (focus (intro u; first | (go_simp; done) | (go_simp; with_reducible rfl))); simp only [Act.put, List.setIfInBounds_toArray, List.set_cons_zero, List.set_cons_succ]; go_big_quiet_on)
                | (refine quiet_run (v := .bool false) (fun u _ => exec_ne_both _ _ (by kernel_rfl) rfl rfl rfl (HE.out u)) ?_; simp only [Act.put, List.setIfInBounds_toArray, List.set_cons_zero, List.set_cons_succ]; go_big_quiet_on))))
          refine wpQuiet_nil ?_
          intro w6 h6
          have K6 := Lib.hid (KP.out.on h6)
          clear FX h6 KP XP HSeq HTri HE
          go_wp2
          go_roundw
          case rel => first | exact ⟨i + 1, t, by omega, by omega, (show (Value.int .i64 ((i : Int) + 1)) = .int .i64 ((i + 1 : Nat) : Int) from rfl), FT.out, K6.out⟩ | ((repeat apply Exists.intro); exact ⟨⟨i + 1, t, by omega, by omega, (show (Value.int .i64 ((i : Int) + 1)) = .int .i64 ((i + 1 : Nat) : Int) from rfl), FT.out, K6.out⟩, rfl⟩)
          case measure => simp [intOf]; omega
    · have hls : ¬ ((i : Int) < (len : Int) ∧ (i : Int) < 80) := by omega
      have HB := Lib.hid HS.out.co.bel
      by_cases hil : (i : Int) < (len : Int)
      · have hi60 : ¬ (i : Int) < 80 := fun h => hls ⟨hil, h⟩
        clear hls
        go_wp2_with fail
        with_reducible refine (HT.out _).mono ?_
        rintro e w9 ⟨rfl, b9⟩
        have HB9 := Lib.hid (HB.out.trans (b9.mono HB.out.size))
        clear b9
        go_wp2
        go_returns
        exact ⟨rfl, HB9.out⟩
      · clear hls
        go_wp2_with fail
        with_reducible refine (HT.out _).mono ?_
        rintro e w9 ⟨rfl, b9⟩
        have HB9 := Lib.hid (HB.out.trans (b9.mono HB.out.size))
        clear b9
        go_wp2
        go_returns
        exact ⟨rfl, HB9.out⟩

theorem walk (x y : Int) (v : Value) (l : List CStepV) (w : World) (_ : (Lit.int .i64 x).wf = true) (_ : (Lit.int .i64 y).wf = true) (hI : CSteps w v l) :
    Calls Try.prog 4 #[.int .i64 x, .int .i64 y, v] w fun e w' => e = .returned (.bool true) ∧ Below w.heap.size w w' := by
  by_cases h : 0 ≤ x ∧ x < 4 ∧ 1 ≤ y ∧ y ≤ 5
  · obtain ⟨a, rfl⟩ : ∃ a : Nat, x = (a : Int) := ⟨x.toNat, by omega⟩
    obtain ⟨b, rfl⟩ : ∃ b : Nat, y = (b : Int) := ⟨y.toNat, by omega⟩
    exact good a b v l w (by omega) (by omega) (by omega) hI
  · exact bad x y v w h

set_option maxRecDepth 100000 in
theorem lifted (os : Os) (started : os.Started) (H : Type) (enc : TypeId × Value → H) :
    ReturnsInHanded {} Try.checked os 4 .any (Rows.clientPlaysSpec.pre6 enc Try.prog Try.f4 Rows.clientPlaysRow.domain false) (Rows.clientPlaysSpec.post enc Try.prog Try.f4 false true false false) := by
  refine returnsInHanded_of_change (C := Try.checked) own started (by kernel_rfl) Try.func4
    (ChangeSpec.witness6 (enc := enc) (C := Try.checked) false ⟨#[], #[.int .i64 0, .int .i64 0, .slice none 0 0], []⟩ 8 (by kernel_rfl) (by kernel_rfl) (by kernel_rfl) (by kernel_rfl)) ?_
  intro W base args ds gs before hval0 hW hcnd _
  have hval : ∀ (j : Nat) t v, Try.f4.params[j]? = some t → args[j]? = some v → Value.okWide Try.prog W .any base t v := hval0
  have hW' := hW
  obtain ⟨p, q, hA0, hV, rfl, hfz, hnd⟩ := hW
  have hA : DataW.TrodAll enc Try.prog W 0 (fun _ => true) true Try.f4.params.toList args.toList ds p := hA0
  rw [Try.params4] at hA hval
  obtain ⟨v0, vs0, d0, ds0, p0, q0, hargs, rfl, rfl, h0, r0⟩ := trodAll_cons hA
  obtain ⟨v1, vs1, d1, ds1, p1, q1, rfl, rfl, rfl, h1, r1⟩ := trodAll_cons r0
  obtain ⟨v2, vs2, d2, ds2, p2, q2, rfl, rfl, rfl, h2, r2⟩ := trodAll_cons r1
  obtain ⟨rfl, rfl, rfl⟩ := trodAll_nil r2
  obtain rfl : args = #[v0, v1, v2] := by cases args; simp_all
  obtain ⟨rfl, rfl⟩ := trodVars_none hV
  obtain ⟨a0, rfl, rfl, rfl, w0⟩ := open_int Try.underlying3 (hval 0 3 v0 rfl rfl) h0
  obtain ⟨a1, rfl, rfl, rfl, w1⟩ := open_int Try.underlying3 (hval 1 3 v1 rfl rfl) h1
  obtain ⟨a2, len2, cap2, rfl⟩ := okWide_slice Try.underlying39 (hval 2 39 v2 rfl rfl)
  have k2 := h2
  have lt2 : ∀ x ∈ p2, x.block < W.heap.size := by obtain ⟨m, hm⟩ := k2; exact DataW.trod_lt m _ _ _ hm
  obtain ⟨l2, w2⟩ := csteps_open h2
  clear hA0 hval0
  refine (walk a0 a1 (.slice a2 len2 cap2) l2 W w0 w1 w2).mono fun e W' ⟨he, bel⟩ => ?_
  subst he
  exact ⟨_, rfl, _, _, _, [], _, [], hW', trodAll_mk1 (shut_bool Try.underlying4 _), (trodAll_cons_mk (shut_int Try.underlying3 w0) (trodAll_cons_mk (shut_int Try.underlying3 w1) (trodAll_cons_mk (Below.trod laidOut (by kernel_rfl) (of_decide_eq_true (by kernel_rfl)) k2 bel lt2) trodAll_mk0))), rfl, bel.frame _, fun h => by cases h⟩

theorem over : Rows.clientPlaysRow.holds Try.pinned (OpenSpec.ofChange Rows.clientPlaysSpec) :=
  OpenClaim.holds_of_wide 4 Try.f4 rfl rfl rfl rfl rfl rfl rfl ⟨rfl, rfl, rfl, rfl, rfl⟩ rfl rfl rfl rfl rfl (by kernel_rfl) Try.func4 (by kernel_rfl)
    (of_decide_eq_true (by kernel_rfl)) (by unfold Func.isWrapper; first | (rw [if_pos (by decide +kernel)]; kernel_rfl) | (rw [if_neg (by decide +kernel)]; exact ⟨rfl, rfl⟩))
    (fun os started H enc _ => lifted os started H enc)
end Go.Proofs.Ytpcbpimlakehcaa.ClientPlays

namespace Go.Proofs.Ytpcbpimlakehcaa
theorem clientPlays_holds : Rows.ClientPlaysSaid := ClientPlays.over
#print axioms clientPlays_holds
end Go.Proofs.Ytpcbpimlakehcaa
