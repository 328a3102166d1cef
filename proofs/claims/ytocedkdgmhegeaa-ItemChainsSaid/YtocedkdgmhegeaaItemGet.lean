/-
  THE PROGRAM's GetReq: the request that the bytes are, or none. No condition but lengths.
-/
import Derived.Test.YtocedkdgmhegeaaItemMayP
import Derived.Test.YtocedkdgmhegeaaItemMath
namespace Go.Proofs.Ytocedkdgmhegeaa
open Go.RowKit

theorem rNum_le (M : Nat) (st : Option (List UInt8)) : (rNum M st).1 ≤ M := by
  cases st with
  | none => simp [rNum]
  | some l =>
    simp only [rNum]
    split
    · simp
    · split
      · assumption
      · simp

theorem rNum_len2 (M : Nat) (st : Option (List UInt8)) (b : Nat) (hm : ∀ l, st = some l → l.length ≤ b) : ∀ l, (rNum M st).2 = some l → l.length ≤ b := by
  intro l hl
  cases st with
  | none => simp [rNum] at hl
  | some l0 =>
    simp only [rNum] at hl
    split at hl
    · cases hl
    · split at hl
      · simp only [Option.some.injEq] at hl
        subst hl
        have := hm l0 rfl
        simp; omega
      · cases hl

theorem rText_len2 (M : Nat) (st : Option (List UInt8)) (b : Nat) (hm : ∀ l, st = some l → l.length ≤ b) : (∀ l, (rText M st).2 = some l → l.length ≤ b) ∧ (rText M st).1.length ≤ b := by
  unfold rText
  have h1 := rNum_len2 M st b hm
  obtain ⟨v, s, hv⟩ : ∃ v s, rNum M st = (v, s) := ⟨_, _, rfl⟩
  rw [hv] at h1 ⊢
  cases s with
  | none => simp [rTextOf]
  | some l =>
    have := h1 l rfl
    simp only [rTextOf]
    split
    · simp; omega
    · simp

set_option maxHeartbeats 400000 in
theorem getint_any {lo : Nat} (h : Nat) (st : Option (List UInt8)) (most : Nat) (hM : most ≤ 9223372036854775807) (w : World) (hR : RdrL lo w h st) (hm : ∀ l, st = some l → l.length ≤ 140737488355328) :
    Calls Try.prog 35 #[.pointer (some ⟨h, 0, none⟩), .int .i64 most] w fun e w' => e = .returned (.int .i64 (rNum most st).1) ∧ RdrL lo w' h (rNum most st).2 ∧ w.grownBy w' (some h) := by
  have H := Lib.hid (rnum_any h st most w hR hm)
  obtain ⟨v, hv⟩ : ∃ v, v = (rNum most st).1 := ⟨_, rfl⟩
  have hle := rNum_le most st
  rw [← hv] at H hle ⊢
  clear hR hm hv
  go_enter Try.func35, Try.ntmps35
  go_wp2_with fail
  refine H.out.mono ?_
  rintro e w1 ⟨rfl, h1, h2⟩
  go_wp2
  go_returns
  exact ⟨rfl, h1, h2⟩

theorem size_Req : (Try.prog.info? 23).map (·.size) = some 6 := by kernel_rfl

/-- A request stored whole into a block that holds one. -/
theorem store_req {ops : Array Oper} {rest : List Oper} {o : Oper} {a : Act} {w : World} {Q : Exit → Act → World → Prop} (hgd : o.guard = none) (x y : Operand) (ho : o.op = .store 23 x y)
    (g : Nat) (hx : a.eval x = .pointer (some ⟨g, 0, none⟩)) (cl sq kd id mt : Int) (dt : ByteArray) (hy : a.eval y = .agg #[.int .i64 cl, .int .i64 sq, .int .i64 kd, .int .i64 id, .int .i64 mt, .string dt])
    {cl0 sq0 kd0 id0 mt0 : Int} {dt0 : ByteArray} (hg : ReqB w g cl0 sq0 kd0 id0 mt0 dt0)
    (h : ∀ w', ReqB w' g cl sq kd id mt dt → w.grownBy w' (some g) → wpList Try.prog ops Q rest (a.put o.dst undef) w') : wpList Try.prog ops Q (o :: rest) a w := by
  obtain ⟨e, hb⟩ := hg
  refine wpList_store_row hgd 23 x y ho g #[.int .i64 cl, .int .i64 sq, .int .i64 kd, .int .i64 id, .int .i64 mt, .string dt] hx hy e _ hb size_Req rfl (by simp [Value.oneCell']) (h _ ⟨e, ?_⟩ ?_)
  · exact setRow_heap w g _ _ e _ hb
  · exact ⟨rfl, rfl, rfl, by simp, fun k _ hk => setRow_other w g k _ (fun e => hk (by rw [e]))⟩

def progB : Bounds := ⟨3, 1073741824, 6, 31, 100, 64⟩
theorem progB_wide : progB.wide := by unfold Bounds.wide progB; decide

theorem rdrl_alloc {lo : Nat} {w : World} {h : Nat} {st : Option (List UInt8)} (hR : RdrL lo w h st) (o : Obj) : RdrL lo (w.alloc o) h st :=
  hR.below ((Below.refl _ _).alloc (Nat.le_refl _) _)

set_option maxHeartbeats 1000000 in
set_option maxRecDepth 100000 in
theorem getreq_bad (v : Value) (Bw : Nat) (l : List UInt8) (w : World) (hB : Byt w Bw v l) (hBw : Bw ≤ w.heap.size) (hlim : l.length ≤ 140737488355328) (hng : ¬ good progB l) :
    Calls Try.prog 17 #[v] w fun e w' => e = .returned (.tuple #[.agg #[.int .i64 0, .int .i64 0, .int .i64 0, .int .i64 0, .int .i64 0, .string ⟨#[]⟩], .int .i64 2]) ∧ Below w.heap.size w w' := by
  have hs0 : ∀ o, (w.alloc o).heap.size = w.heap.size + 1 := by simp
  have HN : Hid (∀ o, Calls Try.prog 34 #[v] (w.alloc o) fun e w' => ∃ h, e = .returned (.pointer (some ⟨h, 0, none⟩)) ∧ w.heap.size + 1 ≤ h ∧ RdrL (w.heap.size + 1) w' h (some l) ∧ Below (w.heap.size + 1) (w.alloc o) w') := by
    intro o
    have := new_any v Bw l (w.alloc o) (hB.keep (((Below.refl _ w).alloc (Nat.le_refl _) o).mono hBw)) (by simp; omega) hlim
    rwa [hs0] at this
  obtain ⟨V1, s1, e1⟩ : ∃ V s, st1 progB l = (V, s) := ⟨_, _, rfl⟩
  obtain ⟨V2, s2, e2⟩ : ∃ V s, st2 progB l = (V, s) := ⟨_, _, rfl⟩
  obtain ⟨V3, s3, e3⟩ : ∃ V s, st3 progB l = (V, s) := ⟨_, _, rfl⟩
  obtain ⟨V4, s4, e4⟩ : ∃ V s, st4 progB l = (V, s) := ⟨_, _, rfl⟩
  obtain ⟨V5, s5, e5⟩ : ∃ V s, st5 progB l = (V, s) := ⟨_, _, rfl⟩
  obtain ⟨V6, s6, e6⟩ : ∃ V s, st6 progB l = (V, s) := ⟨_, _, rfl⟩
  have hgot : got progB l = ⟨V1, V2, V3, V4, V5, V6⟩ := by simp only [got, e1, e2, e3, e4, e5, e6]
  have hgood : good progB l ↔ s6 = some [] ∧ ReqV.may ⟨V1, V2, V3, V4, V5, ⟨V6.toArray⟩⟩ := by simp only [good, hgot, e6, Got.req]
  have f1 : rNum 3 (some l) = (V1, s1) := e1
  have f2 : rNum 1073741824 s1 = (V2, s2) := by rw [← e2, st2, e1]; rfl
  have f3 : rNum 6 s2 = (V3, s3) := by rw [← e3, st3, e2]; rfl
  have f4 : rNum 31 s3 = (V4, s4) := by rw [← e4, st4, e3]; rfl
  have f5 : rNum 100 s4 = (V5, s5) := by rw [← e5, st5, e4]; rfl
  have f6 : rText 64 s5 = (V6, s6) := by rw [← e6, st6, e5]; rfl
  have m0 : ∀ t, some l = some t → t.length ≤ 140737488355328 := by intro t ht; rw [← Option.some.inj ht]; exact hlim
  have m1 := rNum_len2 3 (some l) _ m0
  rw [f1] at m1
  have m2 := rNum_len2 1073741824 s1 _ m1
  rw [f2] at m2
  have m3 := rNum_len2 6 s2 _ m2
  rw [f3] at m3
  have m4 := rNum_len2 31 s3 _ m3
  rw [f4] at m4
  have m5 := rNum_len2 100 s4 _ m4
  rw [f5] at m5
  have m6 := rText_len2 64 s5 _ m5
  rw [f6] at m6
  simp only at m6
  have p1 : ∀ (h : Nat) (u : World), RdrL (w.heap.size + 1) u h (some l) → Calls Try.prog 35 #[.pointer (some ⟨h, 0, none⟩), .int .i64 3] u fun e w' => e = .returned (.int .i64 V1) ∧ RdrL (w.heap.size + 1) w' h s1 ∧ u.grownBy w' (some h) := by
    intro h u hR
    have := getint_any h (some l) 3 (by omega) u hR m0
    rwa [f1] at this
  have p2 : ∀ (h : Nat) (u : World), RdrL (w.heap.size + 1) u h s1 → Calls Try.prog 35 #[.pointer (some ⟨h, 0, none⟩), .int .i64 1073741824] u fun e w' => e = .returned (.int .i64 V2) ∧ RdrL (w.heap.size + 1) w' h s2 ∧ u.grownBy w' (some h) := by
    intro h u hR
    have := getint_any h s1 1073741824 (by omega) u hR m1
    rwa [f2] at this
  have p3 : ∀ (h : Nat) (u : World), RdrL (w.heap.size + 1) u h s2 → Calls Try.prog 35 #[.pointer (some ⟨h, 0, none⟩), .int .i64 6] u fun e w' => e = .returned (.int .i64 V3) ∧ RdrL (w.heap.size + 1) w' h s3 ∧ u.grownBy w' (some h) := by
    intro h u hR
    have := getint_any h s2 6 (by omega) u hR m2
    rwa [f3] at this
  have p4 : ∀ (h : Nat) (u : World), RdrL (w.heap.size + 1) u h s3 → Calls Try.prog 35 #[.pointer (some ⟨h, 0, none⟩), .int .i64 31] u fun e w' => e = .returned (.int .i64 V4) ∧ RdrL (w.heap.size + 1) w' h s4 ∧ u.grownBy w' (some h) := by
    intro h u hR
    have := getint_any h s3 31 (by omega) u hR m3
    rwa [f4] at this
  have p5 : ∀ (h : Nat) (u : World), RdrL (w.heap.size + 1) u h s4 → Calls Try.prog 35 #[.pointer (some ⟨h, 0, none⟩), .int .i64 100] u fun e w' => e = .returned (.int .i64 V5) ∧ RdrL (w.heap.size + 1) w' h s5 ∧ u.grownBy w' (some h) := by
    intro h u hR
    have := getint_any h s4 100 (by omega) u hR m4
    rwa [f5] at this
  have p6 : ∀ (h : Nat) (u : World), RdrL (w.heap.size + 1) u h s5 → Calls Try.prog 36 #[.pointer (some ⟨h, 0, none⟩), .int .i64 64] u fun e w' => e = .returned (.string ⟨V6.toArray⟩) ∧ RdrL (w.heap.size + 1) w' h s6 ∧ u.grownBy w' (some h) := by
    intro h u hR
    have := rtext_any h s5 64 64 (by omega) (.inr rfl) u hR m5
    rwa [f6] at this
  have hsz6 : (ByteArray.mk V6.toArray).size = V6.length := List.size_toArray
  have hd6 : (ByteArray.mk V6.toArray).size ≤ 9223372036854775807 := by rw [hsz6]; have := m6.2; omega
  have HM6 := Lib.hid m6.1
  have P1 := Lib.hid p1
  have P2 := Lib.hid p2
  have P3 := Lib.hid p3
  have P4 := Lib.hid p4
  have P5 := Lib.hid p5
  have P6 := Lib.hid p6
  have HG := Lib.hid hgood
  have HT := Lib.hid hgot
  obtain ⟨S, hS⟩ : ∃ S, S = ByteArray.mk V6.toArray := ⟨_, rfl⟩
  have HSE := Lib.hid hS
  rw [hgood] at hng
  by_cases hE : s6 = some []
  case neg =>
    obtain ⟨E, hEE⟩ : ∃ E, E = rEnd s6 := ⟨_, rfl⟩
    have hb : 0 < E := by
      rw [hEE]
      cases s6 with
      | none => decide
      | some t =>
        cases t with
        | nil => exact absurd rfl hE
        | cons => show (0 : Int) < 9; decide
    clear hE hng hd6 hB hBw hlim e1 e2 e3 e4 e5 e6 f1 f2 f3 f4 f5 f6 m0 m1 m2 m3 m4 m5 m6 p1 p2 p3 p4 p5 p6 hgot hgood hS hsz6 hs0
    go_enter Try.func17, Try.ntmps17
    go_wp2_with fail
    refine (HN.out _).mono ?_
    rintro e v0 ⟨h, rfl, g1, R0, B0⟩
    have D0 := (ReqB.fresh w 0 0 0 0 0 ⟨#[]⟩ 23).keep B0 (Nat.lt_succ_self _)
    have C0 : Hid (Below w.heap.size w v0) := ((Below.refl _ w).alloc (Nat.le_refl _) _).trans (B0.mono (Nat.le_succ _))
    have HD0 := Lib.hid D0
    have l0 := R0.lt
    clear D0 B0
    go_wp2_with fail
    refine (P1.out h _ R0).mono ?_
    rintro e v1 ⟨rfl, R1, G1⟩
    clear R0
    go_wp2_with fail
    refine (P2.out h _ R1).mono ?_
    rintro e v2 ⟨rfl, R2, G2⟩
    clear R1
    go_wp2_with fail
    refine (P3.out h _ R2).mono ?_
    rintro e v3 ⟨rfl, R3, G3⟩
    clear R2
    go_wp2_with fail
    refine (P4.out h _ R3).mono ?_
    rintro e v4 ⟨rfl, R4, G4⟩
    clear R3
    go_wp2_with fail
    refine (P5.out h _ R4).mono ?_
    rintro e v5 ⟨rfl, R5, G5⟩
    clear R4
    go_wp2_with fail
    refine (P6.out h _ R5).mono ?_
    rintro e v6 ⟨rfl, R6, G6⟩
    clear R5
    have G := Lib.hid (grownBy_trans G1 (grownBy_trans G2 (grownBy_trans G3 (grownBy_trans G4 (grownBy_trans G5 G6)))))
    clear G1 G2 G3 G4 G5 G6
    have C6 : Hid (Below w.heap.size w v6) := C0.out.trans (grown_below G.out (by omega) l0)
    have D6 : ReqB v6 w.heap.size 0 0 0 0 0 ⟨#[]⟩ := by
      obtain ⟨t, ht⟩ := HD0.out
      exact ⟨t, (G.out.block w.heap.size (lt_of_block ht) (fun e => by have := Option.some.inj e; omega)).trans ht⟩
    have HD6 := Lib.hid D6
    have lt6 := D6.lt
    rw [← HSE.out]
    clear D6
    have KE := Lib.hid (fun o => rend_any h s6 (v6.alloc o) (rdrl_alloc R6 o) HM6.out)
    rw [← hEE] at KE
    clear R6
    have HE0 := Lib.hid hEE
    clear hEE
    have HD7 : Hid (∀ o, ReqB (v6.alloc o) w.heap.size 0 0 0 0 0 ⟨#[]⟩) := fun o => HD6.out.keep ((Below.refl _ _).alloc (Nat.le_refl _) _) lt6
    have C7 : Hid (∀ o, Below w.heap.size w (v6.alloc o)) := fun o => C6.out.alloc (Nat.le_of_lt lt6) _
    go_wp2_with fail
    refine (KE.out _).mono ?_
    rintro e v7 ⟨rfl, rfl⟩
    go_wp2_with (refine store_req rfl (.tmp 2) (.tmp 29) rfl w.heap.size rfl 0 0 0 0 0 ⟨#[]⟩ rfl (HD7.out _) ?_)
    intro w8 H8 G8
    obtain ⟨c0, c1, c2, c3, c4, c5⟩ := H8.cells
    have BF : Hid (Below w.heap.size w w8) := (C7.out _).trans (grown_below G8 (Nat.le_refl _) (HD7.out _).lt)
    go_wp2
    refine bodyPost_ret (v := .tuple #[.agg #[.int .i64 0, .int .i64 0, .int .i64 0, .int .i64 0, .int .i64 0, .string ⟨#[]⟩], .int .i64 2]) (by simp [results, Try.results17, go_sem, c0, c1, c2, c3, c4, c5]) rfl ⟨rfl, BF.out⟩
  case pos =>
    have hnm : ¬ ReqV.may ⟨V1, V2, V3, V4, V5, S⟩ := fun h => hng ⟨hE, by rw [← hS]; exact h⟩
    have WM := Lib.hid (mayreq_r V1 V2 V3 V4 V5 S (by rw [hS]; exact hd6) false (show _ = _ from (decide_eq_false hnm).symm))
    have HEs := Lib.hid hE
    clear hE hnm hng hd6 hB hBw hlim e1 e2 e3 e4 e5 e6 f1 f2 f3 f4 f5 f6 m0 m1 m2 m3 m4 m5 m6 p1 p2 p3 p4 p5 p6 hgot hgood hS hsz6 hs0
    go_enter Try.func17, Try.ntmps17
    go_wp2_with fail
    refine (HN.out _).mono ?_
    rintro e v0 ⟨h, rfl, g1, R0, B0⟩
    have D0 := (ReqB.fresh w 0 0 0 0 0 ⟨#[]⟩ 23).keep B0 (Nat.lt_succ_self _)
    have C0 : Hid (Below w.heap.size w v0) := ((Below.refl _ w).alloc (Nat.le_refl _) _).trans (B0.mono (Nat.le_succ _))
    have HD0 := Lib.hid D0
    have l0 := R0.lt
    clear D0 B0
    go_wp2_with fail
    refine (P1.out h _ R0).mono ?_
    rintro e v1 ⟨rfl, R1, G1⟩
    clear R0
    go_wp2_with fail
    refine (P2.out h _ R1).mono ?_
    rintro e v2 ⟨rfl, R2, G2⟩
    clear R1
    go_wp2_with fail
    refine (P3.out h _ R2).mono ?_
    rintro e v3 ⟨rfl, R3, G3⟩
    clear R2
    go_wp2_with fail
    refine (P4.out h _ R3).mono ?_
    rintro e v4 ⟨rfl, R4, G4⟩
    clear R3
    go_wp2_with fail
    refine (P5.out h _ R4).mono ?_
    rintro e v5 ⟨rfl, R5, G5⟩
    clear R4
    go_wp2_with fail
    refine (P6.out h _ R5).mono ?_
    rintro e v6 ⟨rfl, R6, G6⟩
    clear R5
    have G := Lib.hid (grownBy_trans G1 (grownBy_trans G2 (grownBy_trans G3 (grownBy_trans G4 (grownBy_trans G5 G6)))))
    clear G1 G2 G3 G4 G5 G6
    have C6 : Hid (Below w.heap.size w v6) := C0.out.trans (grown_below G.out (by omega) l0)
    have D6 : ReqB v6 w.heap.size 0 0 0 0 0 ⟨#[]⟩ := by
      obtain ⟨t, ht⟩ := HD0.out
      exact ⟨t, (G.out.block w.heap.size (lt_of_block ht) (fun e => by have := Option.some.inj e; omega)).trans ht⟩
    have HD6 := Lib.hid D6
    have lt6 := D6.lt
    rw [← HSE.out]
    clear D6
    have KE := Lib.hid (fun o => rend_any h s6 (v6.alloc o) (rdrl_alloc R6 o) HM6.out)
    clear R6
    have HD7 : Hid (∀ o, ReqB (v6.alloc o) w.heap.size 0 0 0 0 0 ⟨#[]⟩) := fun o => HD6.out.keep ((Below.refl _ _).alloc (Nat.le_refl _) _) lt6
    have C7 : Hid (∀ o, Below w.heap.size w (v6.alloc o)) := fun o => C6.out.alloc (Nat.le_of_lt lt6) _
    have KE0 : Hid (∀ o, Calls Try.prog 37 #[.pointer (some ⟨h, 0, none⟩)] (v6.alloc o) fun e w' => e = .returned (.int .i64 0) ∧ v6.alloc o = w') := by
      intro o
      have := KE.out o
      rw [HEs.out] at this
      exact this
    go_wp2_with fail
    refine (KE0.out _).mono ?_
    rintro e v7 ⟨rfl, rfl⟩
    go_wp2_with fail
    refine (WM.out _).mono ?_
    rintro e v8 ⟨rfl, B8⟩
    have HD8 := Lib.hid ((HD7.out _).keep B8 (by simp; omega))
    have C8 := Lib.hid ((C7.out _).trans (B8.mono (by simp; omega)))
    clear B8
    go_wp2_with (refine store_req rfl (.tmp 2) (.tmp 29) rfl w.heap.size rfl 0 0 0 0 0 ⟨#[]⟩ rfl HD8.out ?_)
    intro w8 H8 G8
    obtain ⟨c0, c1, c2, c3, c4, c5⟩ := H8.cells
    have BF : Hid (Below w.heap.size w w8) := C8.out.trans (grown_below G8 (Nat.le_refl _) HD8.out.lt)
    go_wp2
    refine bodyPost_ret (v := .tuple #[.agg #[.int .i64 0, .int .i64 0, .int .i64 0, .int .i64 0, .int .i64 0, .string ⟨#[]⟩], .int .i64 2]) (by simp [results, Try.results17, go_sem, c0, c1, c2, c3, c4, c5]) rfl ⟨rfl, BF.out⟩

/-- The value of what was found. -/
def Got.val (g : Got) : Value := .agg #[.int .i64 g.cl, .int .i64 g.sq, .int .i64 g.kd, .int .i64 g.id, .int .i64 g.mt, .string ⟨g.s.toArray⟩]

set_option maxHeartbeats 1000000 in
set_option maxRecDepth 100000 in
theorem getreq_good (v : Value) (Bw : Nat) (l : List UInt8) (w : World) (hB : Byt w Bw v l) (hBw : Bw ≤ w.heap.size) (hlim : l.length ≤ 140737488355328) (hg : good progB l) :
    Calls Try.prog 17 #[v] w fun e w' => e = .returned (.tuple #[(got progB l).val, .int .i64 0]) ∧ Below w.heap.size w w' := by
  have hs0 : ∀ o, (w.alloc o).heap.size = w.heap.size + 1 := by simp
  have HN : Hid (∀ o, Calls Try.prog 34 #[v] (w.alloc o) fun e w' => ∃ h, e = .returned (.pointer (some ⟨h, 0, none⟩)) ∧ w.heap.size + 1 ≤ h ∧ RdrL (w.heap.size + 1) w' h (some l) ∧ Below (w.heap.size + 1) (w.alloc o) w') := by
    intro o
    have := new_any v Bw l (w.alloc o) (hB.keep (((Below.refl _ w).alloc (Nat.le_refl _) o).mono hBw)) (by simp; omega) hlim
    rwa [hs0] at this
  obtain ⟨V1, s1, e1⟩ : ∃ V s, st1 progB l = (V, s) := ⟨_, _, rfl⟩
  obtain ⟨V2, s2, e2⟩ : ∃ V s, st2 progB l = (V, s) := ⟨_, _, rfl⟩
  obtain ⟨V3, s3, e3⟩ : ∃ V s, st3 progB l = (V, s) := ⟨_, _, rfl⟩
  obtain ⟨V4, s4, e4⟩ : ∃ V s, st4 progB l = (V, s) := ⟨_, _, rfl⟩
  obtain ⟨V5, s5, e5⟩ : ∃ V s, st5 progB l = (V, s) := ⟨_, _, rfl⟩
  obtain ⟨V6, s6, e6⟩ : ∃ V s, st6 progB l = (V, s) := ⟨_, _, rfl⟩
  have hgot : got progB l = ⟨V1, V2, V3, V4, V5, V6⟩ := by simp only [got, e1, e2, e3, e4, e5, e6]
  have hgood : good progB l ↔ s6 = some [] ∧ ReqV.may ⟨V1, V2, V3, V4, V5, ⟨V6.toArray⟩⟩ := by simp only [good, hgot, e6, Got.req]
  have f1 : rNum 3 (some l) = (V1, s1) := e1
  have f2 : rNum 1073741824 s1 = (V2, s2) := by rw [← e2, st2, e1]; rfl
  have f3 : rNum 6 s2 = (V3, s3) := by rw [← e3, st3, e2]; rfl
  have f4 : rNum 31 s3 = (V4, s4) := by rw [← e4, st4, e3]; rfl
  have f5 : rNum 100 s4 = (V5, s5) := by rw [← e5, st5, e4]; rfl
  have f6 : rText 64 s5 = (V6, s6) := by rw [← e6, st6, e5]; rfl
  have m0 : ∀ t, some l = some t → t.length ≤ 140737488355328 := by intro t ht; rw [← Option.some.inj ht]; exact hlim
  have m1 := rNum_len2 3 (some l) _ m0
  rw [f1] at m1
  have m2 := rNum_len2 1073741824 s1 _ m1
  rw [f2] at m2
  have m3 := rNum_len2 6 s2 _ m2
  rw [f3] at m3
  have m4 := rNum_len2 31 s3 _ m3
  rw [f4] at m4
  have m5 := rNum_len2 100 s4 _ m4
  rw [f5] at m5
  have m6 := rText_len2 64 s5 _ m5
  rw [f6] at m6
  simp only at m6
  have p1 : ∀ (h : Nat) (u : World), RdrL (w.heap.size + 1) u h (some l) → Calls Try.prog 35 #[.pointer (some ⟨h, 0, none⟩), .int .i64 3] u fun e w' => e = .returned (.int .i64 V1) ∧ RdrL (w.heap.size + 1) w' h s1 ∧ u.grownBy w' (some h) := by
    intro h u hR
    have := getint_any h (some l) 3 (by omega) u hR m0
    rwa [f1] at this
  have p2 : ∀ (h : Nat) (u : World), RdrL (w.heap.size + 1) u h s1 → Calls Try.prog 35 #[.pointer (some ⟨h, 0, none⟩), .int .i64 1073741824] u fun e w' => e = .returned (.int .i64 V2) ∧ RdrL (w.heap.size + 1) w' h s2 ∧ u.grownBy w' (some h) := by
    intro h u hR
    have := getint_any h s1 1073741824 (by omega) u hR m1
    rwa [f2] at this
  have p3 : ∀ (h : Nat) (u : World), RdrL (w.heap.size + 1) u h s2 → Calls Try.prog 35 #[.pointer (some ⟨h, 0, none⟩), .int .i64 6] u fun e w' => e = .returned (.int .i64 V3) ∧ RdrL (w.heap.size + 1) w' h s3 ∧ u.grownBy w' (some h) := by
    intro h u hR
    have := getint_any h s2 6 (by omega) u hR m2
    rwa [f3] at this
  have p4 : ∀ (h : Nat) (u : World), RdrL (w.heap.size + 1) u h s3 → Calls Try.prog 35 #[.pointer (some ⟨h, 0, none⟩), .int .i64 31] u fun e w' => e = .returned (.int .i64 V4) ∧ RdrL (w.heap.size + 1) w' h s4 ∧ u.grownBy w' (some h) := by
    intro h u hR
    have := getint_any h s3 31 (by omega) u hR m3
    rwa [f4] at this
  have p5 : ∀ (h : Nat) (u : World), RdrL (w.heap.size + 1) u h s4 → Calls Try.prog 35 #[.pointer (some ⟨h, 0, none⟩), .int .i64 100] u fun e w' => e = .returned (.int .i64 V5) ∧ RdrL (w.heap.size + 1) w' h s5 ∧ u.grownBy w' (some h) := by
    intro h u hR
    have := getint_any h s4 100 (by omega) u hR m4
    rwa [f5] at this
  have p6 : ∀ (h : Nat) (u : World), RdrL (w.heap.size + 1) u h s5 → Calls Try.prog 36 #[.pointer (some ⟨h, 0, none⟩), .int .i64 64] u fun e w' => e = .returned (.string ⟨V6.toArray⟩) ∧ RdrL (w.heap.size + 1) w' h s6 ∧ u.grownBy w' (some h) := by
    intro h u hR
    have := rtext_any h s5 64 64 (by omega) (.inr rfl) u hR m5
    rwa [f6] at this
  have hsz6 : (ByteArray.mk V6.toArray).size = V6.length := List.size_toArray
  have hd6 : (ByteArray.mk V6.toArray).size ≤ 9223372036854775807 := by rw [hsz6]; have := m6.2; omega
  have HM6 := Lib.hid m6.1
  have P1 := Lib.hid p1
  have P2 := Lib.hid p2
  have P3 := Lib.hid p3
  have P4 := Lib.hid p4
  have P5 := Lib.hid p5
  have P6 := Lib.hid p6
  have HG := Lib.hid hgood
  have HT := Lib.hid hgot
  rw [hgot]
  unfold Got.val
  simp only
  obtain ⟨S, hS⟩ : ∃ S, S = ByteArray.mk V6.toArray := ⟨_, rfl⟩
  have HSE := Lib.hid hS
  rw [hgood] at hg
  rw [← hS] at hg ⊢
  obtain ⟨hE, hm⟩ := hg
  have WM := Lib.hid (mayreq_r V1 V2 V3 V4 V5 S (by rw [hS]; exact hd6) true (show _ = _ from (decide_eq_true hm).symm))
  have HEs := Lib.hid hE
  clear hE hm hd6 hB hBw hlim e1 e2 e3 e4 e5 e6 f1 f2 f3 f4 f5 f6 m0 m1 m2 m3 m4 m5 m6 p1 p2 p3 p4 p5 p6 hgot hgood hS hsz6 hs0
  go_enter Try.func17, Try.ntmps17
  go_wp2_with fail
  refine (HN.out _).mono ?_
  rintro e v0 ⟨h, rfl, g1, R0, B0⟩
  have D0 := (ReqB.fresh w 0 0 0 0 0 ⟨#[]⟩ 23).keep B0 (Nat.lt_succ_self _)
  have C0 : Hid (Below w.heap.size w v0) := ((Below.refl _ w).alloc (Nat.le_refl _) _).trans (B0.mono (Nat.le_succ _))
  have HD0 := Lib.hid D0
  have l0 := R0.lt
  clear D0 B0
  go_wp2_with fail
  refine (P1.out h _ R0).mono ?_
  rintro e v1 ⟨rfl, R1, G1⟩
  clear R0
  go_wp2_with fail
  refine (P2.out h _ R1).mono ?_
  rintro e v2 ⟨rfl, R2, G2⟩
  clear R1
  go_wp2_with fail
  refine (P3.out h _ R2).mono ?_
  rintro e v3 ⟨rfl, R3, G3⟩
  clear R2
  go_wp2_with fail
  refine (P4.out h _ R3).mono ?_
  rintro e v4 ⟨rfl, R4, G4⟩
  clear R3
  go_wp2_with fail
  refine (P5.out h _ R4).mono ?_
  rintro e v5 ⟨rfl, R5, G5⟩
  clear R4
  go_wp2_with fail
  refine (P6.out h _ R5).mono ?_
  rintro e v6 ⟨rfl, R6, G6⟩
  clear R5
  have G := Lib.hid (grownBy_trans G1 (grownBy_trans G2 (grownBy_trans G3 (grownBy_trans G4 (grownBy_trans G5 G6)))))
  clear G1 G2 G3 G4 G5 G6
  have C6 : Hid (Below w.heap.size w v6) := C0.out.trans (grown_below G.out (by omega) l0)
  have D6 : ReqB v6 w.heap.size 0 0 0 0 0 ⟨#[]⟩ := by
    obtain ⟨t, ht⟩ := HD0.out
    exact ⟨t, (G.out.block w.heap.size (lt_of_block ht) (fun e => by have := Option.some.inj e; omega)).trans ht⟩
  have HD6 := Lib.hid D6
  have lt6 := D6.lt
  rw [← HSE.out]
  clear D6
  have KE := Lib.hid (fun o => rend_any h s6 (v6.alloc o) (rdrl_alloc R6 o) HM6.out)
  clear R6
  have HD7 : Hid (∀ o, ReqB (v6.alloc o) w.heap.size 0 0 0 0 0 ⟨#[]⟩) := fun o => HD6.out.keep ((Below.refl _ _).alloc (Nat.le_refl _) _) lt6
  have C7 : Hid (∀ o, Below w.heap.size w (v6.alloc o)) := fun o => C6.out.alloc (Nat.le_of_lt lt6) _
  have KE0 : Hid (∀ o, Calls Try.prog 37 #[.pointer (some ⟨h, 0, none⟩)] (v6.alloc o) fun e w' => e = .returned (.int .i64 0) ∧ v6.alloc o = w') := by
      intro o
      have := KE.out o
      rw [HEs.out] at this
      exact this
  go_wp2_with fail
  refine (KE0.out _).mono ?_
  rintro e v7 ⟨rfl, rfl⟩
  go_wp2_with fail
  refine (WM.out _).mono ?_
  rintro e v8 ⟨rfl, B8⟩
  have HD8 := Lib.hid ((HD7.out _).keep B8 (by simp; omega))
  have C8 := Lib.hid ((C7.out _).trans (B8.mono (by simp; omega)))
  have HF := (ReqB.fresh v6 V1 V2 V3 V4 V5 S 23).keep B8 (by simp)
  obtain ⟨d0, d1, d2, d3, d4, d5⟩ := HF.cells
  clear B8 HF
  go_wp2_with (refine store_req rfl (.tmp 2) (.tmp 30) rfl w.heap.size rfl V1 V2 V3 V4 V5 S rfl HD8.out ?_)
  intro w8 H8 G8
  clear d0 d1 d2 d3 d4 d5
  obtain ⟨c0, c1, c2, c3, c4, c5⟩ := H8.cells
  have BF : Hid (Below w.heap.size w w8) := C8.out.trans (grown_below G8 (Nat.le_refl _) HD8.out.lt)
  go_wp2
  refine bodyPost_ret (v := .tuple #[.agg #[.int .i64 V1, .int .i64 V2, .int .i64 V3, .int .i64 V4, .int .i64 V5, .string S], .int .i64 0]) (by simp [results, Try.results17, go_sem, c0, c1, c2, c3, c4, c5]) rfl ⟨rfl, BF.out⟩
end Go.Proofs.Ytocedkdgmhegeaa
