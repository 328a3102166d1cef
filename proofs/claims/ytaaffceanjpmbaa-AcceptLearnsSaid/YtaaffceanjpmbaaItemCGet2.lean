/-
  THE PROGRAM's GetChain: the chain that the bytes are, or none. No condition but lengths.
-/
import Derived.Test.YtaaffceanjpmbaaItemCGet
namespace Go.Proofs.Ytaaffceanjpmbaa
open Go.RowKit

theorem own_grown {w w' : World} {base r : Nat} {e : TypeId} {size : Nat} {v : Value} {n : Nat} {xs : List Value} (h : w.ownsRow base e size v n xs) (hg : w.grownBy w' (some r)) (hr : r < base) : w'.ownsRow base e size v n xs := by
  refine ⟨h.1, ?_⟩
  rcases h.2 with hz | ⟨g, cap, cur, hv, hgb, hh, rest⟩
  · exact .inl hz
  · exact .inr ⟨g, cap, cur, hv, hgb, (hg.block g (lt_of_block hh) (fun e => by have := Option.some.inj e; omega)).trans hh, rest⟩
theorem own_below {w w' : World} {base : Nat} {e : TypeId} {size : Nat} {v : Value} {n : Nat} {xs : List Value} (h : w.ownsRow base e size v n xs) (hb : Below w.heap.size w w') : w'.ownsRow base e size v n xs := by
  refine ⟨h.1, ?_⟩
  rcases h.2 with hz | ⟨g, cap, cur, hv, hgb, hh, rest⟩
  · exact .inl hz
  · exact .inr ⟨g, cap, cur, hv, hgb, (hb.block g (lt_of_block hh)).trans hh, rest⟩

theorem size_Chain : (Try.prog.info? 28).map (·.size) = some 2 := by kernel_rfl

/-- A chain stored whole into a block that holds one. -/
theorem store_ch {ops : Array Oper} {rest : List Oper} {o : Oper} {a : Act} {w : World} {Q : Exit → Act → World → Prop} (hgd : o.guard = none) (x y : Operand) (ho : o.op = .store 28 x y)
    (g : Nat) (hx : a.eval x = .pointer (some ⟨g, 0, none⟩)) (ep : Int) (ao : Option Addr) (n cap : Nat) (hy : a.eval y = .agg #[.int .i64 ep, .slice ao n cap])
    {ep0 : Int} {v0 : Value} (hg : ChB w g ep0 v0)
    (h : ∀ w', ChB w' g ep (.slice ao n cap) → w.grownBy w' (some g) → wpList Try.prog ops Q rest (a.put o.dst undef) w') : wpList Try.prog ops Q (o :: rest) a w := by
  obtain ⟨e, hb⟩ := hg
  refine wpList_store_row hgd 28 x y ho g #[.int .i64 ep, .slice ao n cap] hx hy e _ hb size_Chain rfl (by simp [Value.oneCell']) (h _ ⟨e, ?_⟩ ?_)
  · exact setRow_heap w g _ _ e _ hb
  · exact ⟨rfl, rfl, rfl, by simp, fun k _ hk => setRow_other w g k _ (fun e => hk (by rw [e]))⟩

def progC : CBounds := ⟨1073741824, 5, 4⟩
theorem progC_wide : progC.wide := by unfold CBounds.wide progC; decide

set_option maxHeartbeats 1000000 in
set_option maxRecDepth 100000 in
theorem getchain_bad (v : Value) (Bw : Nat) (l : List UInt8) (w : World) (hB : Byt w Bw v l) (hBw : Bw ≤ w.heap.size) (hlim : l.length ≤ 140737488355328) (hng : ¬ goodC progC l) :
    Calls Try.prog 71 #[v] w fun e w' => e = .returned (.tuple #[.agg #[.int .i64 0, .slice none 0 0], .int .i64 2]) ∧ Below w.heap.size w w' := by
  have hs0 : ∀ o, (w.alloc o).heap.size = w.heap.size + 1 := by simp
  have HN : Hid (∀ o, Calls Try.prog 45 #[v] (w.alloc o) fun e w' => ∃ h, e = .returned (.pointer (some ⟨h, 0, none⟩)) ∧ w.heap.size + 1 ≤ h ∧ RdrL (w.heap.size + 1) w' h (some l) ∧ Below (w.heap.size + 1) (w.alloc o) w') := by
    intro o
    have := new_any v Bw l (w.alloc o) (hB.keep (((Below.refl _ w).alloc (Nat.le_refl _) o).mono hBw)) (by simp; omega) hlim
    rwa [hs0] at this
  obtain ⟨V1, s1, e1⟩ : ∃ V s, ch1 progC l = (V, s) := ⟨_, _, rfl⟩
  obtain ⟨N, s2, e2⟩ : ∃ V s, ch2 progC l = (V, s) := ⟨_, _, rfl⟩
  obtain ⟨LN, s3, e3⟩ : ∃ V s, ch3 progC l = (V, s) := ⟨_, _, rfl⟩
  have hgot : gotC progC l = ⟨V1, LN⟩ := by simp only [gotC, e1, e3]
  have hgood : goodC progC l ↔ s3 = some [] ∧ ChainV.may ⟨V1, ofNats LN⟩ := by simp only [goodC, hgot, e3, GotC.chain, ofNats]
  have f1 : rNum 1073741824 (some l) = (V1, s1) := e1
  have f2 : rNum 5 s1 = (N, s2) := by rw [← e2, ch2, e1]; rfl
  have f3 : rList 4 N s2 = (LN, s3) := by rw [← e3, ch3, e2]; rfl
  have hNL : LN.length = N := by have := rList_length 4 N s2; rw [f3] at this; exact this
  have m0 : ∀ t, some l = some t → t.length ≤ 140737488355328 := by intro t ht; rw [← Option.some.inj ht]; exact hlim
  have m1 := rNum_len2 1073741824 (some l) _ m0
  rw [f1] at m1
  have m2 := rNum_len2 5 s1 _ m1
  rw [f2] at m2
  have m3 := rList_len 4 _ N s2 m2
  rw [f3] at m3
  have p1 : ∀ (h : Nat) (u : World), RdrL (w.heap.size + 1) u h (some l) → Calls Try.prog 87 #[.pointer (some ⟨h, 0, none⟩), .int .i64 1073741824] u fun e w' => e = .returned (.int .i64 V1) ∧ RdrL (w.heap.size + 1) w' h s1 ∧ u.grownBy w' (some h) := by
    intro h u hR
    have := getint_any h (some l) 1073741824 (by omega) u hR m0
    rwa [f1] at this
  have p2 : ∀ (h : Nat) (fv : Value) (_ : fv = .func (.func 89) #[] #[]) (u : World), RdrL (w.heap.size + 1) u h s1 → Calls Try.prog 88 #[.pointer (some ⟨h, 0, none⟩), .int .i64 5, fv] u fun e w' => ∃ v', e = .returned v' ∧ w'.ownsRow u.heap.size 3 1 v' N (intCells (ofNats LN)) ∧ RdrL (w.heap.size + 1) w' h s3 ∧ u.grownBy w' (some h) := by
    intro h fv hfv u hR
    have := getlist_any h s1 fv hfv u hR m1
    rwa [f2, f3] at this
  have P1 := Lib.hid p1
  have P2 := Lib.hid p2
  have HM3 := Lib.hid m3
  have HNL := Lib.hid hNL
  rw [hgood] at hng
  by_cases hE : s3 = some []
  case neg =>
    obtain ⟨E, hEE⟩ : ∃ E, E = rEnd s3 := ⟨_, rfl⟩
    have hb : 0 < E := by
      rw [hEE]
      cases s3 with
      | none => decide
      | some t =>
        cases t with
        | nil => exact absurd rfl hE
        | cons => show (0 : Int) < 9; decide
    clear hE hng hB hBw hlim e1 e2 e3 f1 f2 f3 m0 m1 m2 m3 p1 p2 hgot hgood hs0 hNL
    go_enter Try.func71, Try.ntmps71
    go_wp2_with fail
    refine (HN.out _).mono ?_
    rintro e v0 ⟨h, rfl, g1, R0, B0⟩
    have D0 := (ChB.fresh w 0 (.slice none 0 0) 28).keep B0 (Nat.lt_succ_self _)
    have C0 : Hid (Below w.heap.size w v0) := ((Below.refl _ w).alloc (Nat.le_refl _) _).trans (B0.mono (Nat.le_succ _))
    have HD0 := Lib.hid D0
    have l0 := R0.lt
    clear D0 B0
    go_wp2_with fail
    refine (P1.out h _ R0).mono ?_
    rintro e v1 ⟨rfl, R1, G1⟩
    clear R0
    have l1 := G1.size
    go_wp2_with fail
    refine (P2.out h _ rfl _ R1).mono ?_
    rintro e v6 ⟨vl, rfl, O6, R6, G2⟩
    clear R1
    have G := Lib.hid (grownBy_trans G1 G2)
    clear G1 G2
    have C6 : Hid (Below w.heap.size w v6) := C0.out.trans (grown_below G.out (by omega) l0)
    have D6 : ChB v6 w.heap.size 0 (.slice none 0 0) := by
      obtain ⟨t, ht⟩ := HD0.out
      exact ⟨t, (G.out.block w.heap.size (lt_of_block ht) (fun e => by have := Option.some.inj e; omega)).trans ht⟩
    have HD6 := Lib.hid D6
    have lt6 := D6.lt
    have HO6 := Lib.hid O6
    obtain ⟨ao, cp, rfl⟩ := own_shape O6
    clear D6 O6
    have KE := Lib.hid (fun o => rend_any h s3 (v6.alloc o) (rdrl_alloc R6 o) HM3.out)
    clear R6
    have HD7 : Hid (∀ o, ChB (v6.alloc o) w.heap.size 0 (.slice none 0 0)) := fun o => HD6.out.keep ((Below.refl _ _).alloc (Nat.le_refl _) _) lt6
    have C7 : Hid (∀ o, Below w.heap.size w (v6.alloc o)) := fun o => C6.out.alloc (Nat.le_of_lt lt6) _
    rw [← hEE] at KE
    have HE0 := Lib.hid hEE
    clear hEE
    go_wp2_with fail
    refine (KE.out _).mono ?_
    rintro e v7 ⟨rfl, rfl⟩
    go_wp2_with (refine store_ch rfl (.tmp 2) (.tmp 21) rfl w.heap.size rfl 0 none 0 0 rfl (HD7.out _) ?_)
    intro w8 H8 G8
    obtain ⟨c0, c1⟩ := H8.cells
    have BF : Hid (Below w.heap.size w w8) := (C7.out _).trans (grown_below G8 (Nat.le_refl _) (HD7.out _).lt)
    go_wp2
    refine bodyPost_ret (v := .tuple #[.agg #[.int .i64 0, .slice none 0 0], .int .i64 2]) (by simp [results, Try.results71, go_sem, c0, c1]) rfl ⟨rfl, BF.out⟩
  case pos =>
    have hnm : ¬ ChainV.may ⟨V1, ofNats LN⟩ := fun h => hng ⟨hE, h⟩
    have HV := Lib.hid (decide_eq_false hnm).symm
    have HEs := Lib.hid hE
    clear hnm hng hE hB hBw hlim e1 e2 e3 f1 f2 f3 m0 m1 m2 m3 p1 p2 hgot hgood hs0 hNL
    go_enter Try.func71, Try.ntmps71
    go_wp2_with fail
    refine (HN.out _).mono ?_
    rintro e v0 ⟨h, rfl, g1, R0, B0⟩
    have D0 := (ChB.fresh w 0 (.slice none 0 0) 28).keep B0 (Nat.lt_succ_self _)
    have C0 : Hid (Below w.heap.size w v0) := ((Below.refl _ w).alloc (Nat.le_refl _) _).trans (B0.mono (Nat.le_succ _))
    have HD0 := Lib.hid D0
    have l0 := R0.lt
    clear D0 B0
    go_wp2_with fail
    refine (P1.out h _ R0).mono ?_
    rintro e v1 ⟨rfl, R1, G1⟩
    clear R0
    have l1 := G1.size
    go_wp2_with fail
    refine (P2.out h _ rfl _ R1).mono ?_
    rintro e v6 ⟨vl, rfl, O6, R6, G2⟩
    clear R1
    have G := Lib.hid (grownBy_trans G1 G2)
    clear G1 G2
    have C6 : Hid (Below w.heap.size w v6) := C0.out.trans (grown_below G.out (by omega) l0)
    have D6 : ChB v6 w.heap.size 0 (.slice none 0 0) := by
      obtain ⟨t, ht⟩ := HD0.out
      exact ⟨t, (G.out.block w.heap.size (lt_of_block ht) (fun e => by have := Option.some.inj e; omega)).trans ht⟩
    have HD6 := Lib.hid D6
    have lt6 := D6.lt
    have HO6 := Lib.hid O6
    obtain ⟨ao, cp, rfl⟩ := own_shape O6
    clear D6 O6
    have KE := Lib.hid (fun o => rend_any h s3 (v6.alloc o) (rdrl_alloc R6 o) HM3.out)
    clear R6
    have HD7 : Hid (∀ o, ChB (v6.alloc o) w.heap.size 0 (.slice none 0 0)) := fun o => HD6.out.keep ((Below.refl _ _).alloc (Nat.le_refl _) _) lt6
    have C7 : Hid (∀ o, Below w.heap.size w (v6.alloc o)) := fun o => C6.out.alloc (Nat.le_of_lt lt6) _
    have KE0 : Hid (∀ o, Calls Try.prog 49 #[.pointer (some ⟨h, 0, none⟩)] (v6.alloc o) fun e w' => e = .returned (.int .i64 0) ∧ v6.alloc o = w') := by
      intro o
      have := KE.out o
      rw [HEs.out] at this
      exact this
    go_wp2_with fail
    refine (KE0.out _).mono ?_
    rintro e v7 ⟨rfl, rfl⟩
    have O7 : ∀ o, (v6.alloc o).ownsRow v1.heap.size 3 1 (.slice ao N cp) N (intCells (ofNats LN)) := fun o => own_below HO6.out ((Below.refl _ _).alloc (Nat.le_refl _) _)
    have WM := Lib.hid (fun o => maychain_r V1 (.slice ao N cp) (ofNats LN) (v6.alloc o).heap.size (v6.alloc o) (ints_own (O7 o) (Nat.le_refl _)) (Nat.le_refl _) false (show _ = _ from HV.out))
    have HO7 := Lib.hid O7
    clear O7
    go_wp2_with fail
    refine (WM.out _).mono ?_
    rintro e v8 ⟨rfl, B8⟩
    have HD8 := Lib.hid ((HD7.out _).keep B8 (by simp; omega))
    have C8 := Lib.hid ((C7.out _).trans (B8.mono (by simp; omega)))
    clear B8
    go_wp2_with (refine store_ch rfl (.tmp 2) (.tmp 21) rfl w.heap.size rfl 0 none 0 0 rfl HD8.out ?_)
    intro w8 H8 G8
    obtain ⟨c0, c1⟩ := H8.cells
    have BF : Hid (Below w.heap.size w w8) := C8.out.trans (grown_below G8 (Nat.le_refl _) HD8.out.lt)
    go_wp2
    refine bodyPost_ret (v := .tuple #[.agg #[.int .i64 0, .slice none 0 0], .int .i64 2]) (by simp [results, Try.results71, go_sem, c0, c1]) rfl ⟨rfl, BF.out⟩

set_option maxHeartbeats 1000000 in
set_option maxRecDepth 100000 in
theorem getchain_good (v : Value) (Bw : Nat) (l : List UInt8) (w : World) (hB : Byt w Bw v l) (hBw : Bw ≤ w.heap.size) (hlim : l.length ≤ 140737488355328) (hg : goodC progC l) :
    Calls Try.prog 71 #[v] w fun e w' => ∃ v', e = .returned (.tuple #[.agg #[.int .i64 (gotC progC l).ep, v'], .int .i64 0]) ∧
      w'.ownsRow w.heap.size 3 1 v' (gotC progC l).nodes.length (intCells (ofNats (gotC progC l).nodes)) ∧ Below w.heap.size w w' := by
  have hs0 : ∀ o, (w.alloc o).heap.size = w.heap.size + 1 := by simp
  have HN : Hid (∀ o, Calls Try.prog 45 #[v] (w.alloc o) fun e w' => ∃ h, e = .returned (.pointer (some ⟨h, 0, none⟩)) ∧ w.heap.size + 1 ≤ h ∧ RdrL (w.heap.size + 1) w' h (some l) ∧ Below (w.heap.size + 1) (w.alloc o) w') := by
    intro o
    have := new_any v Bw l (w.alloc o) (hB.keep (((Below.refl _ w).alloc (Nat.le_refl _) o).mono hBw)) (by simp; omega) hlim
    rwa [hs0] at this
  obtain ⟨V1, s1, e1⟩ : ∃ V s, ch1 progC l = (V, s) := ⟨_, _, rfl⟩
  obtain ⟨N, s2, e2⟩ : ∃ V s, ch2 progC l = (V, s) := ⟨_, _, rfl⟩
  obtain ⟨LN, s3, e3⟩ : ∃ V s, ch3 progC l = (V, s) := ⟨_, _, rfl⟩
  have hgot : gotC progC l = ⟨V1, LN⟩ := by simp only [gotC, e1, e3]
  have hgood : goodC progC l ↔ s3 = some [] ∧ ChainV.may ⟨V1, ofNats LN⟩ := by simp only [goodC, hgot, e3, GotC.chain, ofNats]
  have f1 : rNum 1073741824 (some l) = (V1, s1) := e1
  have f2 : rNum 5 s1 = (N, s2) := by rw [← e2, ch2, e1]; rfl
  have f3 : rList 4 N s2 = (LN, s3) := by rw [← e3, ch3, e2]; rfl
  have hNL : LN.length = N := by have := rList_length 4 N s2; rw [f3] at this; exact this
  have m0 : ∀ t, some l = some t → t.length ≤ 140737488355328 := by intro t ht; rw [← Option.some.inj ht]; exact hlim
  have m1 := rNum_len2 1073741824 (some l) _ m0
  rw [f1] at m1
  have m2 := rNum_len2 5 s1 _ m1
  rw [f2] at m2
  have m3 := rList_len 4 _ N s2 m2
  rw [f3] at m3
  have p1 : ∀ (h : Nat) (u : World), RdrL (w.heap.size + 1) u h (some l) → Calls Try.prog 87 #[.pointer (some ⟨h, 0, none⟩), .int .i64 1073741824] u fun e w' => e = .returned (.int .i64 V1) ∧ RdrL (w.heap.size + 1) w' h s1 ∧ u.grownBy w' (some h) := by
    intro h u hR
    have := getint_any h (some l) 1073741824 (by omega) u hR m0
    rwa [f1] at this
  have p2 : ∀ (h : Nat) (fv : Value) (_ : fv = .func (.func 89) #[] #[]) (u : World), RdrL (w.heap.size + 1) u h s1 → Calls Try.prog 88 #[.pointer (some ⟨h, 0, none⟩), .int .i64 5, fv] u fun e w' => ∃ v', e = .returned v' ∧ w'.ownsRow u.heap.size 3 1 v' N (intCells (ofNats LN)) ∧ RdrL (w.heap.size + 1) w' h s3 ∧ u.grownBy w' (some h) := by
    intro h fv hfv u hR
    have := getlist_any h s1 fv hfv u hR m1
    rwa [f2, f3] at this
  have P1 := Lib.hid p1
  have P2 := Lib.hid p2
  have HM3 := Lib.hid m3
  have HNL := Lib.hid hNL
  rw [hgood] at hg
  rw [hgot]
  simp only
  obtain ⟨hE, hm⟩ := hg
  have HV := Lib.hid (decide_eq_true hm).symm
  have HEs := Lib.hid hE
  clear hm hE hB hBw hlim e1 e2 e3 f1 f2 f3 m0 m1 m2 m3 p1 p2 hgot hgood hs0 hNL
  go_enter Try.func71, Try.ntmps71
  go_wp2_with fail
  refine (HN.out _).mono ?_
  rintro e v0 ⟨h, rfl, g1, R0, B0⟩
  have D0 := (ChB.fresh w 0 (.slice none 0 0) 28).keep B0 (Nat.lt_succ_self _)
  have C0 : Hid (Below w.heap.size w v0) := ((Below.refl _ w).alloc (Nat.le_refl _) _).trans (B0.mono (Nat.le_succ _))
  have HD0 := Lib.hid D0
  have l0 := R0.lt
  clear D0 B0
  go_wp2_with fail
  refine (P1.out h _ R0).mono ?_
  rintro e v1 ⟨rfl, R1, G1⟩
  clear R0
  have l1 := G1.size
  go_wp2_with fail
  refine (P2.out h _ rfl _ R1).mono ?_
  rintro e v6 ⟨vl, rfl, O6, R6, G2⟩
  clear R1
  have G := Lib.hid (grownBy_trans G1 G2)
  clear G1 G2
  have C6 : Hid (Below w.heap.size w v6) := C0.out.trans (grown_below G.out (by omega) l0)
  have D6 : ChB v6 w.heap.size 0 (.slice none 0 0) := by
    obtain ⟨t, ht⟩ := HD0.out
    exact ⟨t, (G.out.block w.heap.size (lt_of_block ht) (fun e => by have := Option.some.inj e; omega)).trans ht⟩
  have HD6 := Lib.hid D6
  have lt6 := D6.lt
  have HO6 := Lib.hid O6
  obtain ⟨ao, cp, rfl⟩ := own_shape O6
  clear D6 O6
  have KE := Lib.hid (fun o => rend_any h s3 (v6.alloc o) (rdrl_alloc R6 o) HM3.out)
  clear R6
  have HD7 : Hid (∀ o, ChB (v6.alloc o) w.heap.size 0 (.slice none 0 0)) := fun o => HD6.out.keep ((Below.refl _ _).alloc (Nat.le_refl _) _) lt6
  have C7 : Hid (∀ o, Below w.heap.size w (v6.alloc o)) := fun o => C6.out.alloc (Nat.le_of_lt lt6) _
  have KE0 : Hid (∀ o, Calls Try.prog 49 #[.pointer (some ⟨h, 0, none⟩)] (v6.alloc o) fun e w' => e = .returned (.int .i64 0) ∧ v6.alloc o = w') := by
    intro o
    have := KE.out o
    rw [HEs.out] at this
    exact this
  go_wp2_with fail
  refine (KE0.out _).mono ?_
  rintro e v7 ⟨rfl, rfl⟩
  have O7 : ∀ o, (v6.alloc o).ownsRow v1.heap.size 3 1 (.slice ao N cp) N (intCells (ofNats LN)) := fun o => own_below HO6.out ((Below.refl _ _).alloc (Nat.le_refl _) _)
  have WM := Lib.hid (fun o => maychain_r V1 (.slice ao N cp) (ofNats LN) (v6.alloc o).heap.size (v6.alloc o) (ints_own (O7 o) (Nat.le_refl _)) (Nat.le_refl _) true (show _ = _ from HV.out))
  have HO7 := Lib.hid O7
  clear O7
  go_wp2_with fail
  refine (WM.out _).mono ?_
  rintro e v8 ⟨rfl, B8⟩
  have HD8 := Lib.hid ((HD7.out _).keep B8 (by simp; omega))
  have C8 := Lib.hid ((C7.out _).trans (B8.mono (by simp; omega)))
  have HF := (ChB.fresh v6 V1 (.slice ao N cp) 28).keep B8 (by simp)
  have HO8 := Lib.hid (own_below (HO7.out _) B8)
  obtain ⟨d0, d1⟩ := HF.cells
  clear B8 HF
  go_wp2_with (refine store_ch rfl (.tmp 2) (.tmp 22) rfl w.heap.size rfl V1 ao N cp rfl HD8.out ?_)
  intro w8 H8 G8
  clear d0 d1
  obtain ⟨c0, c1⟩ := H8.cells
  have BF : Hid (Below w.heap.size w w8) := C8.out.trans (grown_below G8 (Nat.le_refl _) HD8.out.lt)
  have HO9 := Lib.hid (own_base (own_grown HO8.out G8 (by omega)) (show w.heap.size ≤ v1.heap.size by omega))
  clear G8
  go_wp2
  refine bodyPost_ret (v := .tuple #[.agg #[.int .i64 V1, .slice ao N cp], .int .i64 0]) (by simp [results, Try.results71, go_sem, c0, c1]) rfl ⟨_, rfl, ?_, BF.out⟩
  rw [HNL.out]
  exact HO9.out
end Go.Proofs.Ytaaffceanjpmbaa
