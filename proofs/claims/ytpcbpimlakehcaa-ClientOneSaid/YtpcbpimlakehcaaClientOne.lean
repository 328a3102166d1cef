/-
  PROVED: casebooklaw21.ClientOne answers true and leaves its arguments as they were, for any steps: the row's own reading and nothing else is assumed.
-/
import Derived.Test.YtpcbpimlakehcaaClO
import Derived.Test.YtpcbpimlakehcaaClArgs
namespace Go.Proofs.Ytpcbpimlakehcaa.ClientOne
open Go.ChangeShapes Go.WideShapes Go.ChangeAt Go.RowKit

/-- A client of the law: the first one of three nodes, its tries few. -/
structure CF (i : Nat) (s : CliV) : Prop where
  id : s.id = 0
  n : s.n = 3
  tr : s.tries ≤ 1 + i
theorem q_of {n b : Nat} {w u : World} {s : CliV} (H : CO n w b s u) (hi : s.id = 0) (ht : 0 < s.tries) : ∃ kd ri mt dt, s.q = ⟨0, (s.seq : Int), kd, ri, mt, dt⟩ := by
  obtain ⟨_, hc, hs⟩ := H.c.ok.qm ht
  obtain ⟨r, hr⟩ : ∃ r, r = s.q := ⟨_, rfl⟩
  rw [← hr] at hc hs ⊢
  obtain ⟨cl, sq, kd, ri, mt, dt⟩ := r
  simp only at hc hs
  exact ⟨kd, ri, mt, dt, by rw [hc, hs, hi]; rfl⟩
/-- The step's box. -/
def OB (u : World) (x : Nat) (kd nw sk cl sq k2 ri mt : Int) (dt : ByteArray) (ep : Int) (v : Value) : Prop := u.heap[x]? = some (.cells #[.int .i64 kd, .int .i64 nw, .int .i64 sk, .int .i64 cl, .int .i64 sq, .int .i64 k2, .int .i64 ri, .int .i64 mt, .string dt, .int .i64 ep, v] 44 (0, 0))
section
variable {u u' : World} {x b : Nat} {kd nw sk cl sq k2 ri mt : Int} {dt : ByteArray} {ep : Int} {v : Value}
theorem OB.on (h : OB u x kd nw sk cl sq k2 ri mt dt ep v) (hb : Below u.heap.size u u') : OB u' x kd nw sk cl sq k2 ri mt dt ep v := (hb.block x (lt_of_block h)).trans h
theorem OB.turn (h : OB u x kd nw sk cl sq k2 ri mt dt ep v) (ho : Only (· = b) u u') (hx : x ≠ b) : OB u' x kd nw sk cl sq k2 ri mt dt ep v := (ho.block x (lt_of_block h) hx).trans h
theorem OB.cells (h : OB u x kd nw sk cl sq k2 ri mt dt ep v) : u.cell? ⟨x, 0, none⟩ = some (.int .i64 kd) ∧ u.cell? ⟨x, 1, none⟩ = some (.int .i64 nw) ∧ u.cell? ⟨x, 2, none⟩ = some (.int .i64 sk) ∧ u.cell? ⟨x, 3, none⟩ = some (.int .i64 cl) ∧ u.cell? ⟨x, 4, none⟩ = some (.int .i64 sq) ∧ u.cell? ⟨x, 5, none⟩ = some (.int .i64 k2) ∧ u.cell? ⟨x, 6, none⟩ = some (.int .i64 ri) ∧ u.cell? ⟨x, 7, none⟩ = some (.int .i64 mt) ∧ u.cell? ⟨x, 8, none⟩ = some (.string dt) ∧ u.cell? ⟨x, 9, none⟩ = some (.int .i64 ep) ∧ u.cell? ⟨x, 10, none⟩ = some v := by
  have h' : u.heap[x]? = _ := h
  refine ⟨?_, ?_, ?_, ?_, ?_, ?_, ?_, ?_, ?_, ?_, ?_⟩ <;> simp [World.cell?, h']
end
set_option maxRecDepth 100000 in
set_option maxHeartbeats 16000000 in
theorem walk (v : Value) (l : List CStepV) (w : World) (hI : CSteps w v l) :
    Calls Try.prog 5 #[v] w fun e w' => e = .returned (.bool true) ∧ Below w.heap.size w w' := by
  have HT := Lib.hid (fun u => told21_any u)
  obtain ⟨pa, pc, rfl, hmax, hfit, hc⟩ := hI
  obtain ⟨len, hl⟩ : ∃ len, len = l.length := ⟨_, rfl⟩
  rw [← hl]
  unfold maxLen at hmax
  rw [← hl] at hmax
  have HC := Lib.hid hc
  have HL := Lib.hid hl
  have HFit := Lib.hid hfit
  have HNew : Hid (Calls Try.prog 16 #[.int .i64 0, .int .i64 3] w fun e w' => e = .returned (.tuple #[.pointer (some ⟨w.heap.size, 0, none⟩), .int .i64 0]) ∧ CO w.heap.size w w.heap.size (newCli 0 3) w') := (clnew_yes 0 3 w (by decide) (by decide) (by decide)).mono fun _ _ ⟨he, hc, hb⟩ => ⟨he, CO.new hc hb⟩
  clear hc hl hfit
  go_enter Try.func5, Try.ntmps5
  go_wp2_with fail
  with_reducible refine HNew.out.mono ?_
  rintro e w1 ⟨rfl, k1⟩
  have K1 := Lib.hid k1
  clear k1 HNew
  go_wp2
  go_loopw [7, 5, 6] (fun s7 s5 s6 wr => ∃ (i : Nat) (s : CliV), i ≤ len ∧ i ≤ 80 ∧ s7 = .int .i64 i ∧ s5 = .int .i64 s.seq ∧ s6 = .bool (decide (0 < s.tries)) ∧ Hid (CF i s) ∧ Hid (CO w.heap.size w w.heap.size s wr)) (fun s7 _ _ _ => 80 - (intOf s7).toNat)
  case atStart => exact ⟨0, newCli 0 3, Nat.zero_le _, Nat.zero_le _, rfl, rfl, rfl, ⟨rfl, rfl, Nat.zero_le _⟩, K1.out⟩
  case round =>
    clear K1
    obtain ⟨i, s, hi, hi80, rfl, rfl, rfl, HF, HS⟩ := hrel
    obtain ⟨X, hX⟩ : ∃ X, X = decide (0 < s.tries) := ⟨_, rfl⟩
    obtain ⟨last, hlast⟩ : ∃ n, n = s.seq := ⟨_, rfl⟩
    rw [← hX, ← hlast]
    have HX := Lib.hid hX
    have HLast := Lib.hid hlast
    clear hX hlast
    by_cases hlt : i < len ∧ i < 80
    · obtain ⟨hl1, hl2⟩ := hlt
      have i1 : (i : Int) < (len : Int) := by omega
      have i2 : (i : Int) < 80 := by omega
      have hlL : i < l.length := by rw [← HL.out]; exact hl1
      obtain ⟨pb, off, rfl, hpb, hc⟩ := HC.out (by intro e; rw [e] at hlL; simp at hlL)
      have hcell := (hc i hlL).keep HS.out.bel hpb
      have hft := HFit.out _ (List.getElem_mem hlL)
      obtain ⟨⟨kd, nw, sk, ⟨cl, sq, k2, ri, mt, dt⟩, ep, v, L⟩, hst⟩ : ∃ st, st = l[i] := ⟨_, rfl⟩
      rw [← hst] at hcell hft
      unfold CStepV.fits at hft
      unfold CStepCells at hcell
      simp only at hft hcell
      obtain ⟨f0, f1, f2, f3, f4, hInts⟩ := hft
      obtain ⟨va, vc, rfl, _⟩ := id hInts
      obtain ⟨vn, hvn⟩ : ∃ n, n = L.length := ⟨_, rfl⟩
      rw [← hvn] at hcell hInts
      have HI := Lib.hid hInts
      have HV := Lib.hid hvn
      have HD : Hid (dt.size ≤ 9223372036854775807) := f3
      have HNW : Hid (nw ≤ 9223372036854775807) := f1.2
      have HTr : Hid (s.tries ≤ 99999) := by have := HF.out.tr; show _ ≤ _; omega
      have hlow := HS.out.low
      have hlt0 := HS.out.c.lt
      have s1 : CO w.heap.size w w.heap.size s (wr.alloc (.cells #[.int .i64 kd, .int .i64 nw, .int .i64 sk, .int .i64 cl, .int .i64 sq, .int .i64 k2, .int .i64 ri, .int .i64 mt, .string dt, .int .i64 ep, .slice va vn vc] 44)) := HS.out.on ((Below.refl _ _).alloc (Nat.le_refl _) _)
      have b1 : OB (wr.alloc (.cells #[.int .i64 kd, .int .i64 nw, .int .i64 sk, .int .i64 cl, .int .i64 sq, .int .i64 k2, .int .i64 ri, .int .i64 mt, .string dt, .int .i64 ep, .slice va vn vc] 44)) wr.heap.size kd nw sk cl sq k2 ri mt dt ep (.slice va vn vc) := heap_alloc_new wr _
      obtain ⟨W1, hW1⟩ : ∃ W1, W1 = wr.alloc (.cells #[.int .i64 kd, .int .i64 nw, .int .i64 sk, .int .i64 cl, .int .i64 sq, .int .i64 k2, .int .i64 ri, .int .i64 mt, .string dt, .int .i64 ep, .slice va vn vc] 44) := ⟨_, rfl⟩
      rw [← hW1] at s1 b1
      have S1 := Lib.hid s1
      have B1 := Lib.hid b1
      have HW1 := Lib.hid hW1
      have HQ : Hid (wr.heap.size ≠ w.heap.size) := by show _ ≠ _; omega
      obtain ⟨x0, x1, x2, x3, x4, x5, x6, x7, x8, x9, x10⟩ := hcell
      clear hc hpb hlL hl1 f0 f1 f2 f3 f4 hInts hvn hst hlow hlt0 s1 b1 hW1
      by_cases hb1 : 100 < dt.size
      · have hb1' : (100 : Int) < (dt.size : Int) := by omega
        go_wp2_with fail
        rw [← HW1.out]
        with_reducible refine (HT.out _).mono ?_
        rintro e w9 ⟨rfl, b9⟩
        have HB9 := Lib.hid (S1.out.bel.trans (b9.mono (Nat.le_trans S1.out.le S1.out.bel.size)))
        clear b9
        go_wp2
        go_returns
        exact ⟨rfl, HB9.out⟩
      have hb1' : ¬ (100 : Int) < (dt.size : Int) := by omega
      by_cases hb2 : 8 < vn
      · have hb2' : (8 : Int) < (vn : Int) := by omega
        go_wp2_with fail
        rw [← HW1.out]
        with_reducible refine (HT.out _).mono ?_
        rintro e w9 ⟨rfl, b9⟩
        have HB9 := Lib.hid (S1.out.bel.trans (b9.mono (Nat.le_trans S1.out.le S1.out.bel.size)))
        clear b9
        go_wp2
        go_returns
        exact ⟨rfl, HB9.out⟩
      have hb2' : ¬ (8 : Int) < (vn : Int) := by omega
      have hls : last ≤ 1073741824 := by rw [HLast.out]; exact S1.out.c.ok.sq
      clear hb1 hb2
      obtain ⟨y0, y1, y2, y3, y4, y5, y6, y7, y8, y9, y10⟩ := B1.out.cells
      by_cases hk0 : (kd == 0) = true
      · by_cases hE : caskE s nw ⟨cl, sq, k2, ri, mt, dt⟩ = 0
        · have hgd : caskGood s nw ⟨cl, sq, k2, ri, mt, dt⟩ ∧ ¬ 0 < s.tries := by
            unfold caskE at hE
            split at hE
            · rename_i h1
              split at hE
              · exact absurd hE (by decide)
              · rename_i h2; exact ⟨h1, h2⟩
            · exact absurd hE (by decide)
          obtain rfl : X = false := HX.out.trans (decide_eq_false hgd.2)
          obtain ⟨t, ht⟩ : ∃ t, t = s.ask nw ⟨cl, sq, k2, ri, mt, dt⟩ := ⟨_, rfl⟩
          have HA : Hid (Calls Try.prog 17 #[.pointer (some ⟨w.heap.size, 0, none⟩), .int .i64 nw, .agg #[.int .i64 cl, .int .i64 sq, .int .i64 k2, .int .i64 ri, .int .i64 mt, .string dt]] W1 fun e w' => e = .returned (.tuple #[.int .i64 (caskTo s nw ⟨cl, sq, k2, ri, mt, dt⟩), .int .i64 0]) ∧ CO w.heap.size w w.heap.size t w') := by
            have h := coask_r S1.out nw ⟨cl, sq, k2, ri, mt, dt⟩ HD.out
            unfold caskS at h
            rw [if_pos hE, hE, ← ht] at h
            exact h.mono fun _ _ ⟨he, hc, _⟩ => ⟨he, hc⟩
          generalize caskTo s nw ⟨cl, sq, k2, ri, mt, dt⟩ = AT at HA
          have HTL : Hid ((t.seq : Int) = (last : Int) + 1) := by show _ = _; rw [ht, HLast.out]; rfl
          have HTX : Hid (decide (0 < t.tries) = true) := by show _ = _; rw [ht]; exact decide_eq_true Nat.zero_lt_one
          have FT : Hid (CF (i + 1) t) := by rw [ht]; exact ⟨HF.out.id, HF.out.n, by show 1 ≤ 1 + (i + 1); omega⟩
          have HSe : Hid (∀ u, CO w.heap.size w w.heap.size t u → Calls Try.prog 27 #[.pointer (some ⟨w.heap.size, 0, none⟩)] u fun e w' => e = .returned (.int .i64 ((last : Int) + 1)) ∧ u = w') := fun u hu => by
            have h := coseq_r hu
            rw [HTL.out] at h
            exact h
          clear hE hgd ht HX
          go_wp2_with fail
          rw [← HW1.out]
          with_reducible refine HA.out.mono ?_
          rintro e w2 ⟨rfl, k2c⟩
          have K2 := Lib.hid k2c
          clear k2c HA y0 y1 y2 y3 y4 y5 y6 y7 y8 y9 y10
          go_wp2_with fail
          with_reducible refine (HSe.out _ K2.out).mono ?_
          rintro e w3 ⟨rfl, rfl⟩
          go_wp2_with fail
          with_reducible refine (HSe.out _ K2.out).mono ?_
          rintro e w3 ⟨rfl, rfl⟩
          clear HSe
          have HSq : Hid (∀ u, CO w.heap.size w w.heap.size t u → Calls Try.prog 27 #[.pointer (some ⟨w.heap.size, 0, none⟩)] u fun e w' => e = .returned (.int .i64 ((last : Int) + 1)) ∧ u = w') := fun u hu => by
            have h := coseq_r hu
            rw [HTL.out] at h
            exact h
          obtain ⟨pk, pi, pm, pd, hpq⟩ := q_of K2.out FT.out.id (of_decide_eq_true HTX.out)
          have HP : Hid (Calls Try.prog 26 #[.pointer (some ⟨w.heap.size, 0, none⟩)] w2 fun e w' => e = .returned (.tuple #[.agg #[.int .i64 0, .int .i64 ((last : Int) + 1), .int .i64 pk, .int .i64 pi, .int .i64 pm, .string pd], .bool true]) ∧ CO w.heap.size w w.heap.size t w') := by
            have h := copend_r K2.out
            rw [hpq, HTX.out, HTL.out] at h
            exact h.mono fun _ _ ⟨he, hc, _⟩ => ⟨he, hc⟩
          clear hpq
          clear K2
          go_wp2_with fail
          with_reducible refine HP.out.mono ?_
          rintro e wp ⟨rfl, kp⟩
          have KP : Hid (CO w.heap.size w w.heap.size t (wp.alloc (.cells #[.int .i64 0, .int .i64 ((last : Int) + 1), .int .i64 pk, .int .i64 pi, .int .i64 pm, .string pd] 33))) := kp.on ((Below.refl _ _).alloc (Nat.le_refl _) _)
          clear kp HP
          go_wp2_with fail
          with_reducible refine (HSq.out _ KP.out).mono ?_
          rintro e wq ⟨rfl, rfl⟩
          clear HSq
          have H5 : Hid ((Value.int .i64 ((last : Int) + 1)) = .int .i64 ((t.seq : Nat) : Int)) := by show _ = _; rw [HTL.out]
          have H6 : Hid ((Value.bool true) = .bool (decide (0 < t.tries))) := by show _ = _; rw [HTX.out]
          go_wp2
          go_roundw
          case rel => first | exact ⟨i + 1, t, by omega, by omega, (show (Value.int .i64 ((i : Int) + 1)) = .int .i64 ((i + 1 : Nat) : Int) from rfl), H5.out, H6.out, FT.out, KP.out⟩ | ((repeat apply Exists.intro); exact ⟨⟨i + 1, t, by omega, by omega, (show (Value.int .i64 ((i : Int) + 1)) = .int .i64 ((i + 1 : Nat) : Int) from rfl), H5.out, H6.out, FT.out, KP.out⟩, rfl⟩)
          case measure => simp [intOf]; omega
        · obtain ⟨t, ht⟩ : ∃ t, t = s := ⟨_, rfl⟩
          obtain ⟨E, hEE⟩ : ∃ E, E = caskE s nw ⟨cl, sq, k2, ri, mt, dt⟩ := ⟨_, rfl⟩
          have HA : Hid (Calls Try.prog 17 #[.pointer (some ⟨w.heap.size, 0, none⟩), .int .i64 nw, .agg #[.int .i64 cl, .int .i64 sq, .int .i64 k2, .int .i64 ri, .int .i64 mt, .string dt]] W1 fun e w' => e = .returned (.tuple #[.int .i64 (caskTo s nw ⟨cl, sq, k2, ri, mt, dt⟩), .int .i64 E]) ∧ CO w.heap.size w w.heap.size t w') := by
            have h := coask_r S1.out nw ⟨cl, sq, k2, ri, mt, dt⟩ HD.out
            unfold caskS at h
            rw [if_neg hE, ← hEE] at h
            rw [ht]
            exact h.mono fun _ _ ⟨he, hc, _⟩ => ⟨he, hc⟩
          generalize caskTo s nw ⟨cl, sq, k2, ri, mt, dt⟩ = AT at HA
          have hE2 : (E == 0) = false := by rw [hEE]; simpa using hE
          have HTL : Hid ((t.seq : Int) = (last : Int)) := by show _ = _; rw [ht, HLast.out]
          have HTX : Hid (decide (0 < t.tries) = X) := by show _ = _; rw [ht, HX.out]
          have FT : Hid (CF (i + 1) t) := by rw [ht]; exact ⟨HF.out.id, HF.out.n, by have := HF.out.tr; show s.tries ≤ 1 + (i + 1); omega⟩
          clear hE ht hEE HX
          go_wp2_with fail
          rw [← HW1.out]
          with_reducible refine HA.out.mono ?_
          rintro e w2 ⟨rfl, k2c⟩
          have K2 := Lib.hid k2c
          clear k2c HA y0 y1 y2 y3 y4 y5 y6 y7 y8 y9 y10
          cases X
          · have HSq : Hid (∀ u, CO w.heap.size w w.heap.size t u → Calls Try.prog 27 #[.pointer (some ⟨w.heap.size, 0, none⟩)] u fun e w' => e = .returned (.int .i64 (last : Int)) ∧ u = w') := fun u hu => by
              have h := coseq_r hu
              rw [HTL.out] at h
              exact h
            have HP : Hid (Calls Try.prog 26 #[.pointer (some ⟨w.heap.size, 0, none⟩)] w2 fun e w' => e = .returned (.tuple #[.agg #[.int .i64 0, .int .i64 0, .int .i64 0, .int .i64 0, .int .i64 0, .string ⟨#[]⟩], .bool false]) ∧ CO w.heap.size w w.heap.size t w') := by
              have h := copend_r K2.out
              rw [HTX.out, (K2.out.c.ok.zq (by have := of_decide_eq_false HTX.out; omega)).1] at h
              exact h.mono fun _ _ ⟨he, hc, _⟩ => ⟨he, hc⟩
            clear K2
            go_wp2_with fail
            with_reducible refine HP.out.mono ?_
            rintro e wp ⟨rfl, kp⟩
            have KP : Hid (CO w.heap.size w w.heap.size t (wp.alloc (.cells #[.int .i64 0, .int .i64 0, .int .i64 0, .int .i64 0, .int .i64 0, .string ⟨#[]⟩] 33))) := kp.on ((Below.refl _ _).alloc (Nat.le_refl _) _)
            clear kp HP
            go_wp2_with fail
            with_reducible refine (HSq.out _ KP.out).mono ?_
            rintro e wq ⟨rfl, rfl⟩
            clear HSq
            have H5 : Hid ((Value.int .i64 (last : Int)) = .int .i64 ((t.seq : Nat) : Int)) := by show _ = _; rw [HTL.out]
            have H6 : Hid ((Value.bool false) = .bool (decide (0 < t.tries))) := by show _ = _; rw [HTX.out]
            go_wp2
            go_roundw
            case rel => first | exact ⟨i + 1, t, by omega, by omega, (show (Value.int .i64 ((i : Int) + 1)) = .int .i64 ((i + 1 : Nat) : Int) from rfl), H5.out, H6.out, FT.out, KP.out⟩ | ((repeat apply Exists.intro); exact ⟨⟨i + 1, t, by omega, by omega, (show (Value.int .i64 ((i : Int) + 1)) = .int .i64 ((i + 1 : Nat) : Int) from rfl), H5.out, H6.out, FT.out, KP.out⟩, rfl⟩)
            case measure => simp [intOf]; omega
          · have HSq : Hid (∀ u, CO w.heap.size w w.heap.size t u → Calls Try.prog 27 #[.pointer (some ⟨w.heap.size, 0, none⟩)] u fun e w' => e = .returned (.int .i64 (last : Int)) ∧ u = w') := fun u hu => by
              have h := coseq_r hu
              rw [HTL.out] at h
              exact h
            obtain ⟨pk, pi, pm, pd, hpq⟩ := q_of K2.out FT.out.id (of_decide_eq_true HTX.out)
            have HP : Hid (Calls Try.prog 26 #[.pointer (some ⟨w.heap.size, 0, none⟩)] w2 fun e w' => e = .returned (.tuple #[.agg #[.int .i64 0, .int .i64 (last : Int), .int .i64 pk, .int .i64 pi, .int .i64 pm, .string pd], .bool true]) ∧ CO w.heap.size w w.heap.size t w') := by
              have h := copend_r K2.out
              rw [hpq, HTX.out, HTL.out] at h
              exact h.mono fun _ _ ⟨he, hc, _⟩ => ⟨he, hc⟩
            clear hpq
            clear K2
            go_wp2_with fail
            with_reducible refine HP.out.mono ?_
            rintro e wp ⟨rfl, kp⟩
            have KP : Hid (CO w.heap.size w w.heap.size t (wp.alloc (.cells #[.int .i64 0, .int .i64 (last : Int), .int .i64 pk, .int .i64 pi, .int .i64 pm, .string pd] 33))) := kp.on ((Below.refl _ _).alloc (Nat.le_refl _) _)
            clear kp HP
            go_wp2_with fail
            with_reducible refine (HSq.out _ KP.out).mono ?_
            rintro e wq ⟨rfl, rfl⟩
            clear HSq
            have H5 : Hid ((Value.int .i64 (last : Int)) = .int .i64 ((t.seq : Nat) : Int)) := by show _ = _; rw [HTL.out]
            have H6 : Hid ((Value.bool true) = .bool (decide (0 < t.tries))) := by show _ = _; rw [HTX.out]
            go_wp2
            go_roundw
            case rel => first | exact ⟨i + 1, t, by omega, by omega, (show (Value.int .i64 ((i : Int) + 1)) = .int .i64 ((i + 1 : Nat) : Int) from rfl), H5.out, H6.out, FT.out, KP.out⟩ | ((repeat apply Exists.intro); exact ⟨⟨i + 1, t, by omega, by omega, (show (Value.int .i64 ((i : Int) + 1)) = .int .i64 ((i + 1 : Nat) : Int) from rfl), H5.out, H6.out, FT.out, KP.out⟩, rfl⟩)
            case measure => simp [intOf]; omega
      have hk0' : (kd == 0) = false := by simpa using hk0
      clear hk0
      by_cases hk1 : (kd == 1) = true
      · obtain ⟨t, ht⟩ : ∃ t, t = ctickS s nw := ⟨_, rfl⟩
        obtain ⟨D, hD⟩ : ∃ D, D = decide (dueV s nw) := ⟨_, rfl⟩
        have HA : Hid (Calls Try.prog 19 #[.pointer (some ⟨w.heap.size, 0, none⟩), .int .i64 nw] W1 fun e w' => e = .returned (.tuple #[.int .i64 (ctickTo s nw), .bool D]) ∧ CO w.heap.size w w.heap.size t w') := by
          have h := cotick_r S1.out nw HNW.out HTr.out
          rw [← ht, ← hD] at h
          exact h.mono fun _ _ ⟨he, hc, _⟩ => ⟨he, hc⟩
        generalize ctickTo s nw = AT at HA
        obtain ⟨g1, g2, g3, g4, g5⟩ := ctickS_fix s nw
        rw [← ht] at g1 g2 g3 g4 g5
        have HTL : Hid ((t.seq : Int) = (last : Int)) := by show _ = _; rw [g4, HLast.out]
        have HTX : Hid (decide (0 < t.tries) = X) := by show _ = _; rw [HX.out]; exact decide_eq_decide.2 g5
        have FT : Hid (CF (i + 1) t) := ⟨g1.trans HF.out.id, g2.trans HF.out.n, by have := HF.out.tr; omega⟩
        have HDX : Hid (D = true → X = true) := fun h => HX.out.trans (decide_eq_true (of_decide_eq_true (hD.symm.trans h)).1)
        clear ht hD g1 g2 g3 g4 g5 HX
        go_wp2_with fail
        rw [← HW1.out]
        with_reducible refine HA.out.mono ?_
        rintro e w2 ⟨rfl, k2c⟩
        have K2 := Lib.hid k2c
        clear k2c HA y0 y1 y2 y3 y4 y5 y6 y7 y8 y9 y10
        cases X
        · obtain rfl : D = false := by
            cases D
            · rfl
            · exact absurd (HDX.out rfl) (by decide)
          have HSq : Hid (∀ u, CO w.heap.size w w.heap.size t u → Calls Try.prog 27 #[.pointer (some ⟨w.heap.size, 0, none⟩)] u fun e w' => e = .returned (.int .i64 (last : Int)) ∧ u = w') := fun u hu => by
            have h := coseq_r hu
            rw [HTL.out] at h
            exact h
          have HP : Hid (Calls Try.prog 26 #[.pointer (some ⟨w.heap.size, 0, none⟩)] w2 fun e w' => e = .returned (.tuple #[.agg #[.int .i64 0, .int .i64 0, .int .i64 0, .int .i64 0, .int .i64 0, .string ⟨#[]⟩], .bool false]) ∧ CO w.heap.size w w.heap.size t w') := by
            have h := copend_r K2.out
            rw [HTX.out, (K2.out.c.ok.zq (by have := of_decide_eq_false HTX.out; omega)).1] at h
            exact h.mono fun _ _ ⟨he, hc, _⟩ => ⟨he, hc⟩
          clear K2
          go_wp2_with fail
          with_reducible refine HP.out.mono ?_
          rintro e wp ⟨rfl, kp⟩
          have KP : Hid (CO w.heap.size w w.heap.size t (wp.alloc (.cells #[.int .i64 0, .int .i64 0, .int .i64 0, .int .i64 0, .int .i64 0, .string ⟨#[]⟩] 33))) := kp.on ((Below.refl _ _).alloc (Nat.le_refl _) _)
          clear kp HP
          go_wp2_with fail
          with_reducible refine (HSq.out _ KP.out).mono ?_
          rintro e wq ⟨rfl, rfl⟩
          clear HSq
          have H5 : Hid ((Value.int .i64 (last : Int)) = .int .i64 ((t.seq : Nat) : Int)) := by show _ = _; rw [HTL.out]
          have H6 : Hid ((Value.bool false) = .bool (decide (0 < t.tries))) := by show _ = _; rw [HTX.out]
          go_wp2
          go_roundw
          case rel => first | exact ⟨i + 1, t, by omega, by omega, (show (Value.int .i64 ((i : Int) + 1)) = .int .i64 ((i + 1 : Nat) : Int) from rfl), H5.out, H6.out, FT.out, KP.out⟩ | ((repeat apply Exists.intro); exact ⟨⟨i + 1, t, by omega, by omega, (show (Value.int .i64 ((i : Int) + 1)) = .int .i64 ((i + 1 : Nat) : Int) from rfl), H5.out, H6.out, FT.out, KP.out⟩, rfl⟩)
          case measure => simp [intOf]; omega
        · cases D
          · have HSq : Hid (∀ u, CO w.heap.size w w.heap.size t u → Calls Try.prog 27 #[.pointer (some ⟨w.heap.size, 0, none⟩)] u fun e w' => e = .returned (.int .i64 (last : Int)) ∧ u = w') := fun u hu => by
              have h := coseq_r hu
              rw [HTL.out] at h
              exact h
            obtain ⟨pk, pi, pm, pd, hpq⟩ := q_of K2.out FT.out.id (of_decide_eq_true HTX.out)
            have HP : Hid (Calls Try.prog 26 #[.pointer (some ⟨w.heap.size, 0, none⟩)] w2 fun e w' => e = .returned (.tuple #[.agg #[.int .i64 0, .int .i64 (last : Int), .int .i64 pk, .int .i64 pi, .int .i64 pm, .string pd], .bool true]) ∧ CO w.heap.size w w.heap.size t w') := by
              have h := copend_r K2.out
              rw [hpq, HTX.out, HTL.out] at h
              exact h.mono fun _ _ ⟨he, hc, _⟩ => ⟨he, hc⟩
            clear hpq
            clear K2
            go_wp2_with fail
            with_reducible refine HP.out.mono ?_
            rintro e wp ⟨rfl, kp⟩
            have KP : Hid (CO w.heap.size w w.heap.size t (wp.alloc (.cells #[.int .i64 0, .int .i64 (last : Int), .int .i64 pk, .int .i64 pi, .int .i64 pm, .string pd] 33))) := kp.on ((Below.refl _ _).alloc (Nat.le_refl _) _)
            clear kp HP
            go_wp2_with fail
            with_reducible refine (HSq.out _ KP.out).mono ?_
            rintro e wq ⟨rfl, rfl⟩
            clear HSq
            have H5 : Hid ((Value.int .i64 (last : Int)) = .int .i64 ((t.seq : Nat) : Int)) := by show _ = _; rw [HTL.out]
            have H6 : Hid ((Value.bool true) = .bool (decide (0 < t.tries))) := by show _ = _; rw [HTX.out]
            go_wp2
            go_roundw
            case rel => first | exact ⟨i + 1, t, by omega, by omega, (show (Value.int .i64 ((i : Int) + 1)) = .int .i64 ((i + 1 : Nat) : Int) from rfl), H5.out, H6.out, FT.out, KP.out⟩ | ((repeat apply Exists.intro); exact ⟨⟨i + 1, t, by omega, by omega, (show (Value.int .i64 ((i : Int) + 1)) = .int .i64 ((i + 1 : Nat) : Int) from rfl), H5.out, H6.out, FT.out, KP.out⟩, rfl⟩)
            case measure => simp [intOf]; omega
          · have HSq : Hid (∀ u, CO w.heap.size w w.heap.size t u → Calls Try.prog 27 #[.pointer (some ⟨w.heap.size, 0, none⟩)] u fun e w' => e = .returned (.int .i64 (last : Int)) ∧ u = w') := fun u hu => by
              have h := coseq_r hu
              rw [HTL.out] at h
              exact h
            obtain ⟨pk, pi, pm, pd, hpq⟩ := q_of K2.out FT.out.id (of_decide_eq_true HTX.out)
            have HP : Hid (Calls Try.prog 26 #[.pointer (some ⟨w.heap.size, 0, none⟩)] w2 fun e w' => e = .returned (.tuple #[.agg #[.int .i64 0, .int .i64 (last : Int), .int .i64 pk, .int .i64 pi, .int .i64 pm, .string pd], .bool true]) ∧ CO w.heap.size w w.heap.size t w') := by
              have h := copend_r K2.out
              rw [hpq, HTX.out, HTL.out] at h
              exact h.mono fun _ _ ⟨he, hc, _⟩ => ⟨he, hc⟩
            clear hpq
            clear K2
            go_wp2_with fail
            with_reducible refine HP.out.mono ?_
            rintro e wp ⟨rfl, kp⟩
            have KP : Hid (CO w.heap.size w w.heap.size t (wp.alloc (.cells #[.int .i64 0, .int .i64 (last : Int), .int .i64 pk, .int .i64 pi, .int .i64 pm, .string pd] 33))) := kp.on ((Below.refl _ _).alloc (Nat.le_refl _) _)
            clear kp HP
            go_wp2_with fail
            with_reducible refine (HSq.out _ KP.out).mono ?_
            rintro e wq ⟨rfl, rfl⟩
            clear HSq
            have H5 : Hid ((Value.int .i64 (last : Int)) = .int .i64 ((t.seq : Nat) : Int)) := by show _ = _; rw [HTL.out]
            have H6 : Hid ((Value.bool true) = .bool (decide (0 < t.tries))) := by show _ = _; rw [HTX.out]
            go_wp2
            go_roundw
            case rel => first | exact ⟨i + 1, t, by omega, by omega, (show (Value.int .i64 ((i : Int) + 1)) = .int .i64 ((i + 1 : Nat) : Int) from rfl), H5.out, H6.out, FT.out, KP.out⟩ | ((repeat apply Exists.intro); exact ⟨⟨i + 1, t, by omega, by omega, (show (Value.int .i64 ((i : Int) + 1)) = .int .i64 ((i + 1 : Nat) : Int) from rfl), H5.out, H6.out, FT.out, KP.out⟩, rfl⟩)
            case measure => simp [intOf]; omega
      have hk1' : (kd == 1) = false := by simpa using hk1
      clear hk1
      by_cases hk2 : (kd == 2) = true
      · obtain ⟨t, ht⟩ : ∃ t, t = ctoldS s sk ep L := ⟨_, rfl⟩
        have HA : Hid (Calls Try.prog 18 #[.pointer (some ⟨w.heap.size, 0, none⟩), .int .i64 sk, .agg #[.int .i64 ep, .slice va vn vc]] W1 fun e w' => e = .returned (.tuple #[]) ∧ CO w.heap.size w w.heap.size t w') := by
          have h := cotold_r S1.out sk ep _ L ((HI.out.keep S1.out.bel).mono S1.out.bel.size)
          rw [← ht] at h
          exact h.mono fun _ _ ⟨he, hc, _⟩ => ⟨he, hc⟩
        obtain ⟨g1, g2, g3, g4⟩ := ctoldS_fix s sk ep L
        rw [← ht] at g1 g2 g3 g4
        have HTL : Hid ((t.seq : Int) = (last : Int)) := by show _ = _; rw [g4, HLast.out]
        have HTX : Hid (decide (0 < t.tries) = X) := by show _ = _; rw [HX.out, g3]
        have FT : Hid (CF (i + 1) t) := ⟨g1.trans HF.out.id, g2.trans HF.out.n, by have := HF.out.tr; omega⟩
        clear ht g1 g2 g3 g4 HX
        go_wp2_with fail
        rw [← HW1.out]
        with_reducible refine HA.out.mono ?_
        rintro e w2 ⟨rfl, k2c⟩
        have K2 := Lib.hid k2c
        clear k2c HA y0 y1 y2 y3 y4 y5 y6 y7 y8 y9 y10
        cases X
        · have HSq : Hid (∀ u, CO w.heap.size w w.heap.size t u → Calls Try.prog 27 #[.pointer (some ⟨w.heap.size, 0, none⟩)] u fun e w' => e = .returned (.int .i64 (last : Int)) ∧ u = w') := fun u hu => by
            have h := coseq_r hu
            rw [HTL.out] at h
            exact h
          have HP : Hid (Calls Try.prog 26 #[.pointer (some ⟨w.heap.size, 0, none⟩)] w2 fun e w' => e = .returned (.tuple #[.agg #[.int .i64 0, .int .i64 0, .int .i64 0, .int .i64 0, .int .i64 0, .string ⟨#[]⟩], .bool false]) ∧ CO w.heap.size w w.heap.size t w') := by
            have h := copend_r K2.out
            rw [HTX.out, (K2.out.c.ok.zq (by have := of_decide_eq_false HTX.out; omega)).1] at h
            exact h.mono fun _ _ ⟨he, hc, _⟩ => ⟨he, hc⟩
          clear K2
          go_wp2_with fail
          with_reducible refine HP.out.mono ?_
          rintro e wp ⟨rfl, kp⟩
          have KP : Hid (CO w.heap.size w w.heap.size t (wp.alloc (.cells #[.int .i64 0, .int .i64 0, .int .i64 0, .int .i64 0, .int .i64 0, .string ⟨#[]⟩] 33))) := kp.on ((Below.refl _ _).alloc (Nat.le_refl _) _)
          clear kp HP
          go_wp2_with fail
          with_reducible refine (HSq.out _ KP.out).mono ?_
          rintro e wq ⟨rfl, rfl⟩
          clear HSq
          have H5 : Hid ((Value.int .i64 (last : Int)) = .int .i64 ((t.seq : Nat) : Int)) := by show _ = _; rw [HTL.out]
          have H6 : Hid ((Value.bool false) = .bool (decide (0 < t.tries))) := by show _ = _; rw [HTX.out]
          go_wp2
          go_roundw
          case rel => first | exact ⟨i + 1, t, by omega, by omega, (show (Value.int .i64 ((i : Int) + 1)) = .int .i64 ((i + 1 : Nat) : Int) from rfl), H5.out, H6.out, FT.out, KP.out⟩ | ((repeat apply Exists.intro); exact ⟨⟨i + 1, t, by omega, by omega, (show (Value.int .i64 ((i : Int) + 1)) = .int .i64 ((i + 1 : Nat) : Int) from rfl), H5.out, H6.out, FT.out, KP.out⟩, rfl⟩)
          case measure => simp [intOf]; omega
        · have HSq : Hid (∀ u, CO w.heap.size w w.heap.size t u → Calls Try.prog 27 #[.pointer (some ⟨w.heap.size, 0, none⟩)] u fun e w' => e = .returned (.int .i64 (last : Int)) ∧ u = w') := fun u hu => by
            have h := coseq_r hu
            rw [HTL.out] at h
            exact h
          obtain ⟨pk, pi, pm, pd, hpq⟩ := q_of K2.out FT.out.id (of_decide_eq_true HTX.out)
          have HP : Hid (Calls Try.prog 26 #[.pointer (some ⟨w.heap.size, 0, none⟩)] w2 fun e w' => e = .returned (.tuple #[.agg #[.int .i64 0, .int .i64 (last : Int), .int .i64 pk, .int .i64 pi, .int .i64 pm, .string pd], .bool true]) ∧ CO w.heap.size w w.heap.size t w') := by
            have h := copend_r K2.out
            rw [hpq, HTX.out, HTL.out] at h
            exact h.mono fun _ _ ⟨he, hc, _⟩ => ⟨he, hc⟩
          clear hpq
          clear K2
          go_wp2_with fail
          with_reducible refine HP.out.mono ?_
          rintro e wp ⟨rfl, kp⟩
          have KP : Hid (CO w.heap.size w w.heap.size t (wp.alloc (.cells #[.int .i64 0, .int .i64 (last : Int), .int .i64 pk, .int .i64 pi, .int .i64 pm, .string pd] 33))) := kp.on ((Below.refl _ _).alloc (Nat.le_refl _) _)
          clear kp HP
          go_wp2_with fail
          with_reducible refine (HSq.out _ KP.out).mono ?_
          rintro e wq ⟨rfl, rfl⟩
          clear HSq
          have H5 : Hid ((Value.int .i64 (last : Int)) = .int .i64 ((t.seq : Nat) : Int)) := by show _ = _; rw [HTL.out]
          have H6 : Hid ((Value.bool true) = .bool (decide (0 < t.tries))) := by show _ = _; rw [HTX.out]
          go_wp2
          go_roundw
          case rel => first | exact ⟨i + 1, t, by omega, by omega, (show (Value.int .i64 ((i : Int) + 1)) = .int .i64 ((i + 1 : Nat) : Int) from rfl), H5.out, H6.out, FT.out, KP.out⟩ | ((repeat apply Exists.intro); exact ⟨⟨i + 1, t, by omega, by omega, (show (Value.int .i64 ((i : Int) + 1)) = .int .i64 ((i + 1 : Nat) : Int) from rfl), H5.out, H6.out, FT.out, KP.out⟩, rfl⟩)
          case measure => simp [intOf]; omega
      have hk2' : (kd == 2) = false := by simpa using hk2
      clear hk2
      by_cases hf : forV s sk
      · obtain ⟨t, ht⟩ : ∃ t, t = s.rest := ⟨_, rfl⟩
        have HA : Hid (Calls Try.prog 24 #[.pointer (some ⟨w.heap.size, 0, none⟩), .int .i64 sk] W1 fun e w' => e = .returned (.bool true) ∧ CO w.heap.size w w.heap.size t w' ∧ Only (· = w.heap.size) W1 w') := by
          have h := coans_r S1.out sk
          unfold cansS at h
          rw [if_pos hf, decide_eq_true hf, ← ht] at h
          exact h
        obtain rfl : X = true := HX.out.trans (decide_eq_true hf.1)
        have hsk : sk = (last : Int) := by rw [HLast.out, ← (S1.out.c.ok.qm hf.1).2.2]; exact hf.2.symm
        have HTL : Hid ((t.seq : Int) = (last : Int)) := by show _ = _; rw [ht, HLast.out]; rfl
        have HTX : Hid (decide (0 < t.tries) = false) := by show _ = _; rw [ht]; exact decide_eq_false (Nat.lt_irrefl _)
        have FT : Hid (CF (i + 1) t) := by rw [ht]; exact ⟨HF.out.id, HF.out.n, Nat.zero_le _⟩
        have hsk2 : (sk != (last : Int)) = false := by rw [hsk]; simp
        clear hf ht HX hsk
        go_wp2_with fail
        rw [← HW1.out]
        with_reducible refine HA.out.mono ?_
        rintro e w2 ⟨rfl, k2c, o2c⟩
        have K2 := Lib.hid k2c
        have B2 := Lib.hid (B1.out.turn o2c HQ.out)
        clear k2c o2c HA y0 y1 y2 y3 y4 y5 y6 y7 y8 y9 y10
        obtain ⟨-, -, y2, -⟩ := B2.out.cells
        have HSq : Hid (∀ u, CO w.heap.size w w.heap.size t u → Calls Try.prog 27 #[.pointer (some ⟨w.heap.size, 0, none⟩)] u fun e w' => e = .returned (.int .i64 (last : Int)) ∧ u = w') := fun u hu => by
          have h := coseq_r hu
          rw [HTL.out] at h
          exact h
        have HP : Hid (Calls Try.prog 26 #[.pointer (some ⟨w.heap.size, 0, none⟩)] w2 fun e w' => e = .returned (.tuple #[.agg #[.int .i64 0, .int .i64 0, .int .i64 0, .int .i64 0, .int .i64 0, .string ⟨#[]⟩], .bool false]) ∧ CO w.heap.size w w.heap.size t w') := by
          have h := copend_r K2.out
          rw [HTX.out, (K2.out.c.ok.zq (by have := of_decide_eq_false HTX.out; omega)).1] at h
          exact h.mono fun _ _ ⟨he, hc, _⟩ => ⟨he, hc⟩
        clear K2
        go_wp2_with fail
        with_reducible refine HP.out.mono ?_
        rintro e wp ⟨rfl, kp⟩
        have KP : Hid (CO w.heap.size w w.heap.size t (wp.alloc (.cells #[.int .i64 0, .int .i64 0, .int .i64 0, .int .i64 0, .int .i64 0, .string ⟨#[]⟩] 33))) := kp.on ((Below.refl _ _).alloc (Nat.le_refl _) _)
        clear kp HP
        go_wp2_with fail
        with_reducible refine (HSq.out _ KP.out).mono ?_
        rintro e wq ⟨rfl, rfl⟩
        clear HSq
        have H5 : Hid ((Value.int .i64 (last : Int)) = .int .i64 ((t.seq : Nat) : Int)) := by show _ = _; rw [HTL.out]
        have H6 : Hid ((Value.bool false) = .bool (decide (0 < t.tries))) := by show _ = _; rw [HTX.out]
        go_wp2
        go_roundw
        case rel => first | exact ⟨i + 1, t, by omega, by omega, (show (Value.int .i64 ((i : Int) + 1)) = .int .i64 ((i + 1 : Nat) : Int) from rfl), H5.out, H6.out, FT.out, KP.out⟩ | ((repeat apply Exists.intro); exact ⟨⟨i + 1, t, by omega, by omega, (show (Value.int .i64 ((i : Int) + 1)) = .int .i64 ((i + 1 : Nat) : Int) from rfl), H5.out, H6.out, FT.out, KP.out⟩, rfl⟩)
        case measure => simp [intOf]; omega
      · obtain ⟨t, ht⟩ : ∃ t, t = s := ⟨_, rfl⟩
        have HA : Hid (Calls Try.prog 24 #[.pointer (some ⟨w.heap.size, 0, none⟩), .int .i64 sk] W1 fun e w' => e = .returned (.bool false) ∧ CO w.heap.size w w.heap.size t w') := by
          have h := coans_r S1.out sk
          unfold cansS at h
          rw [if_neg hf, decide_eq_false hf] at h
          rw [ht]
          exact h.mono fun _ _ ⟨he, hc, _⟩ => ⟨he, hc⟩
        have HTL : Hid ((t.seq : Int) = (last : Int)) := by show _ = _; rw [ht, HLast.out]
        have HTX : Hid (decide (0 < t.tries) = X) := by show _ = _; rw [ht, HX.out]
        have FT : Hid (CF (i + 1) t) := by rw [ht]; exact ⟨HF.out.id, HF.out.n, by have := HF.out.tr; show s.tries ≤ 1 + (i + 1); omega⟩
        clear hf ht HX
        go_wp2_with fail
        rw [← HW1.out]
        with_reducible refine HA.out.mono ?_
        rintro e w2 ⟨rfl, k2c⟩
        have K2 := Lib.hid k2c
        clear k2c HA y0 y1 y2 y3 y4 y5 y6 y7 y8 y9 y10
        cases X
        · have HSq : Hid (∀ u, CO w.heap.size w w.heap.size t u → Calls Try.prog 27 #[.pointer (some ⟨w.heap.size, 0, none⟩)] u fun e w' => e = .returned (.int .i64 (last : Int)) ∧ u = w') := fun u hu => by
            have h := coseq_r hu
            rw [HTL.out] at h
            exact h
          have HP : Hid (Calls Try.prog 26 #[.pointer (some ⟨w.heap.size, 0, none⟩)] w2 fun e w' => e = .returned (.tuple #[.agg #[.int .i64 0, .int .i64 0, .int .i64 0, .int .i64 0, .int .i64 0, .string ⟨#[]⟩], .bool false]) ∧ CO w.heap.size w w.heap.size t w') := by
            have h := copend_r K2.out
            rw [HTX.out, (K2.out.c.ok.zq (by have := of_decide_eq_false HTX.out; omega)).1] at h
            exact h.mono fun _ _ ⟨he, hc, _⟩ => ⟨he, hc⟩
          clear K2
          go_wp2_with fail
          with_reducible refine HP.out.mono ?_
          rintro e wp ⟨rfl, kp⟩
          have KP : Hid (CO w.heap.size w w.heap.size t (wp.alloc (.cells #[.int .i64 0, .int .i64 0, .int .i64 0, .int .i64 0, .int .i64 0, .string ⟨#[]⟩] 33))) := kp.on ((Below.refl _ _).alloc (Nat.le_refl _) _)
          clear kp HP
          go_wp2_with fail
          with_reducible refine (HSq.out _ KP.out).mono ?_
          rintro e wq ⟨rfl, rfl⟩
          clear HSq
          have H5 : Hid ((Value.int .i64 (last : Int)) = .int .i64 ((t.seq : Nat) : Int)) := by show _ = _; rw [HTL.out]
          have H6 : Hid ((Value.bool false) = .bool (decide (0 < t.tries))) := by show _ = _; rw [HTX.out]
          go_wp2
          go_roundw
          case rel => first | exact ⟨i + 1, t, by omega, by omega, (show (Value.int .i64 ((i : Int) + 1)) = .int .i64 ((i + 1 : Nat) : Int) from rfl), H5.out, H6.out, FT.out, KP.out⟩ | ((repeat apply Exists.intro); exact ⟨⟨i + 1, t, by omega, by omega, (show (Value.int .i64 ((i : Int) + 1)) = .int .i64 ((i + 1 : Nat) : Int) from rfl), H5.out, H6.out, FT.out, KP.out⟩, rfl⟩)
          case measure => simp [intOf]; omega
        · have HSq : Hid (∀ u, CO w.heap.size w w.heap.size t u → Calls Try.prog 27 #[.pointer (some ⟨w.heap.size, 0, none⟩)] u fun e w' => e = .returned (.int .i64 (last : Int)) ∧ u = w') := fun u hu => by
            have h := coseq_r hu
            rw [HTL.out] at h
            exact h
          obtain ⟨pk, pi, pm, pd, hpq⟩ := q_of K2.out FT.out.id (of_decide_eq_true HTX.out)
          have HP : Hid (Calls Try.prog 26 #[.pointer (some ⟨w.heap.size, 0, none⟩)] w2 fun e w' => e = .returned (.tuple #[.agg #[.int .i64 0, .int .i64 (last : Int), .int .i64 pk, .int .i64 pi, .int .i64 pm, .string pd], .bool true]) ∧ CO w.heap.size w w.heap.size t w') := by
            have h := copend_r K2.out
            rw [hpq, HTX.out, HTL.out] at h
            exact h.mono fun _ _ ⟨he, hc, _⟩ => ⟨he, hc⟩
          clear hpq
          clear K2
          go_wp2_with fail
          with_reducible refine HP.out.mono ?_
          rintro e wp ⟨rfl, kp⟩
          have KP : Hid (CO w.heap.size w w.heap.size t (wp.alloc (.cells #[.int .i64 0, .int .i64 (last : Int), .int .i64 pk, .int .i64 pi, .int .i64 pm, .string pd] 33))) := kp.on ((Below.refl _ _).alloc (Nat.le_refl _) _)
          clear kp HP
          go_wp2_with fail
          with_reducible refine (HSq.out _ KP.out).mono ?_
          rintro e wq ⟨rfl, rfl⟩
          clear HSq
          have H5 : Hid ((Value.int .i64 (last : Int)) = .int .i64 ((t.seq : Nat) : Int)) := by show _ = _; rw [HTL.out]
          have H6 : Hid ((Value.bool true) = .bool (decide (0 < t.tries))) := by show _ = _; rw [HTX.out]
          go_wp2
          go_roundw
          case rel => first | exact ⟨i + 1, t, by omega, by omega, (show (Value.int .i64 ((i : Int) + 1)) = .int .i64 ((i + 1 : Nat) : Int) from rfl), H5.out, H6.out, FT.out, KP.out⟩ | ((repeat apply Exists.intro); exact ⟨⟨i + 1, t, by omega, by omega, (show (Value.int .i64 ((i : Int) + 1)) = .int .i64 ((i + 1 : Nat) : Int) from rfl), H5.out, H6.out, FT.out, KP.out⟩, rfl⟩)
          case measure => simp [intOf]; omega
    · have hls : ¬ ((i : Int) < (len : Int) ∧ (i : Int) < 80) := by omega
      have HB := Lib.hid HS.out.bel
      by_cases hil : (i : Int) < (len : Int)
      · have hi60 : ¬ (i : Int) < 80 := fun h => hls ⟨hil, h⟩
        clear hls
        go_wp2_with fail
        with_reducible refine (HT.out _).mono ?_
        rintro e w9 ⟨rfl, b9⟩
        have HB9 := Lib.hid (HB.out.trans (b9.mono HB.out.size))
        clear b9
        go_wp2
        go_returns
        exact ⟨rfl, HB9.out⟩
      · clear hls
        go_wp2_with fail
        with_reducible refine (HT.out _).mono ?_
        rintro e w9 ⟨rfl, b9⟩
        have HB9 := Lib.hid (HB.out.trans (b9.mono HB.out.size))
        clear b9
        go_wp2
        go_returns
        exact ⟨rfl, HB9.out⟩

set_option maxRecDepth 100000 in
theorem lifted (os : Os) (started : os.Started) (H : Type) (enc : TypeId × Value → H) :
    ReturnsInHanded {} Try.checked os 5 .any (Rows.clientOneSpec.pre6 enc Try.prog Try.f5 Rows.clientOneRow.domain false) (Rows.clientOneSpec.post enc Try.prog Try.f5 false true false false) := by
  refine returnsInHanded_of_change (C := Try.checked) own started (by kernel_rfl) Try.func5
    (ChangeSpec.witness6 (enc := enc) (C := Try.checked) false ⟨#[], #[.slice none 0 0], []⟩ 8 (by kernel_rfl) (by kernel_rfl) (by kernel_rfl) (by kernel_rfl)) ?_
  intro W base args ds gs before hval0 hW hcnd _
  have hval : ∀ (j : Nat) t v, Try.f5.params[j]? = some t → args[j]? = some v → Value.okWide Try.prog W .any base t v := hval0
  have hW' := hW
  obtain ⟨p, q, hA0, hV, rfl, hfz, hnd⟩ := hW
  have hA : DataW.TrodAll enc Try.prog W 0 (fun _ => true) true Try.f5.params.toList args.toList ds p := hA0
  rw [Try.params5] at hA hval
  obtain ⟨v0, vs0, d0, ds0, p0, q0, hargs, rfl, rfl, h0, r0⟩ := trodAll_cons hA
  obtain ⟨rfl, rfl, rfl⟩ := trodAll_nil r0
  obtain rfl : args = #[v0] := by cases args; simp_all
  obtain ⟨rfl, rfl⟩ := trodVars_none hV
  obtain ⟨a0, len0, cap0, rfl⟩ := okWide_slice Try.underlying39 (hval 0 39 v0 rfl rfl)
  have k0 := h0
  have lt0 : ∀ x ∈ p0, x.block < W.heap.size := by obtain ⟨m, hm⟩ := k0; exact DataW.trod_lt m _ _ _ hm
  obtain ⟨l0, w0⟩ := csteps_open h0
  clear hA0 hval0
  refine (walk (.slice a0 len0 cap0) l0 W w0).mono fun e W' ⟨he, bel⟩ => ?_
  subst he
  exact ⟨_, rfl, _, _, _, [], _, [], hW', trodAll_mk1 (shut_bool Try.underlying4 _), (trodAll_cons_mk (Below.trod laidOut (by kernel_rfl) (of_decide_eq_true (by kernel_rfl)) k0 bel lt0) trodAll_mk0), rfl, bel.frame _, fun h => by cases h⟩

theorem over : Rows.clientOneRow.holds Try.pinned (OpenSpec.ofChange Rows.clientOneSpec) :=
  OpenClaim.holds_of_wide 5 Try.f5 rfl rfl rfl rfl rfl rfl rfl ⟨rfl, rfl, rfl, rfl, rfl⟩ rfl rfl rfl rfl rfl (by kernel_rfl) Try.func5 (by kernel_rfl)
    (of_decide_eq_true (by kernel_rfl)) (by unfold Func.isWrapper; first | (rw [if_pos (by decide +kernel)]; kernel_rfl) | (rw [if_neg (by decide +kernel)]; exact ⟨rfl, rfl⟩))
    (fun os started H enc _ => lifted os started H enc)
end Go.Proofs.Ytpcbpimlakehcaa.ClientOne

namespace Go.Proofs.Ytpcbpimlakehcaa
theorem clientOne_holds : Rows.ClientOneSaid := ClientOne.over
#print axioms clientOne_holds
end Go.Proofs.Ytpcbpimlakehcaa
