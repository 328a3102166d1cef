/-
  What is left without some, and with one more, is what the document says; it may follow (12.2, 12.1), as ChainTurns says: for any chain that may be, any nodes (at most 8), any node. No condition.
-/
import Derived.Test.YtnliadnpoledmaaChainWays
import Derived.Test.YtnliadnpoledmaaItemArgs
import Derived.Test.YtnliadnpoledmaaBookArgs
namespace Go.Proofs.Ytnliadnpoledmaa.ChainTurns
open Go.ChangeShapes Go.WideShapes Go.ChangeAt Go.RowKit

set_option maxHeartbeats 4000000 in
set_option maxRecDepth 100000 in
theorem many (ea : Int) (aa : Option Addr) (ca : Nat) (A : List Int) (al : Option Addr) (nl cl : Nat) (l : List Int) (node : Int) (w : World) (hA : Ints w w.heap.size (.slice aa A.length ca) A) (hL : Ints w w.heap.size (.slice al nl cl) l) (hF : ¬ A.length ≤ 10) :
    Calls Try.prog 5 #[.agg #[.int .i64 ea, .slice aa A.length ca], (.slice al nl cl), .int .i64 node] w fun e w' => e = .returned (.bool true) ∧ Below w.heap.size w w' := by
  have HT := Lib.hid (fun u => told12_any u)
  have HFA : Hid (∀ u v B, Ints u B v A → Calls Try.prog 17 #[.agg #[.int .i64 ea, v]] u fun e w' => e = .returned (.bool false) ∧ Below u.heap.size u w') := fun u v B h => few12_r ea v A B u h (decide_eq_false hF)
  have b0 := below_alloc w (.cells #[.int .i64 ea, .slice aa A.length ca] 25)
  have A0 := Lib.hid (R1.fresh (ex := ea) hA)
  have L0 := Lib.hid (ints_step hL b0)
  have G0 := Lib.hid (b0)
  clear b0 hA hL
  clear hF 
  go_enter Try.func5, Try.ntmps5
  obtain ⟨p0a, p0b⟩ := A0.out.c.cells
  go_wp2_with fail
  clear p0a p0b
  refine (HFA.out _ _ _ A0.out.i).mono ?_
  rintro e w1 ⟨rfl, Bw1⟩
  have A1 := Lib.hid (A0.out.step Bw1)
  have L1 := Lib.hid (ints_step L0.out Bw1)
  have G1 := Lib.hid (below_step G0.out Bw1)
  clear A0 L0 G0 Bw1
  obtain ⟨p0a, p0b⟩ := A1.out.c.cells
  go_wp2_with fail
  clear p0a p0b
  refine (HT.out _).mono ?_
  rintro e w3 ⟨rfl, Bw3⟩
  have A2 := Lib.hid (A1.out.step Bw3)
  have L2 := Lib.hid (ints_step L1.out Bw3)
  have G2 := Lib.hid (below_step G1.out Bw3)
  clear A1 L1 G1 Bw3
  go_wp2
  go_returns
  exact ⟨rfl, G2.out⟩

set_option maxHeartbeats 4000000 in
set_option maxRecDepth 100000 in
theorem long (ea : Int) (aa : Option Addr) (ca : Nat) (A : List Int) (al : Option Addr) (nl cl : Nat) (l : List Int) (node : Int) (w : World) (hA : Ints w w.heap.size (.slice aa A.length ca) A) (hL : Ints w w.heap.size (.slice al nl cl) l) (hF : A.length ≤ 10) (h8 : (8 : Int) < (nl : Int)) :
    Calls Try.prog 5 #[.agg #[.int .i64 ea, .slice aa A.length ca], (.slice al nl cl), .int .i64 node] w fun e w' => e = .returned (.bool true) ∧ Below w.heap.size w w' := by
  have HT := Lib.hid (fun u => told12_any u)
  have HFA : Hid (∀ u v B, Ints u B v A → Calls Try.prog 17 #[.agg #[.int .i64 ea, v]] u fun e w' => e = .returned (.bool true) ∧ Below u.heap.size u w') := fun u v B h => few12_r ea v A B u h (decide_eq_true hF)
  have b0 := below_alloc w (.cells #[.int .i64 ea, .slice aa A.length ca] 25)
  have A0 := Lib.hid (R1.fresh (ex := ea) hA)
  have L0 := Lib.hid (ints_step hL b0)
  have G0 := Lib.hid (b0)
  clear b0 hA hL
  clear hF 
  go_enter Try.func5, Try.ntmps5
  obtain ⟨p0a, p0b⟩ := A0.out.c.cells
  go_wp2_with fail
  clear p0a p0b
  refine (HFA.out _ _ _ A0.out.i).mono ?_
  rintro e w1 ⟨rfl, Bw1⟩
  have A1 := Lib.hid (A0.out.step Bw1)
  have L1 := Lib.hid (ints_step L0.out Bw1)
  have G1 := Lib.hid (below_step G0.out Bw1)
  clear A0 L0 G0 Bw1
  obtain ⟨p0a, p0b⟩ := A1.out.c.cells
  go_wp2_with fail
  clear p0a p0b
  refine (HT.out _).mono ?_
  rintro e w3 ⟨rfl, Bw3⟩
  have A2 := Lib.hid (A1.out.step Bw3)
  have L2 := Lib.hid (ints_step L1.out Bw3)
  have G2 := Lib.hid (below_step G1.out Bw3)
  clear A1 L1 G1 Bw3
  go_wp2
  go_returns
  exact ⟨rfl, G2.out⟩

set_option maxHeartbeats 4000000 in
set_option maxRecDepth 100000 in
theorem never (ea : Int) (aa : Option Addr) (ca : Nat) (A : List Int) (al : Option Addr) (nl cl : Nat) (l : List Int) (node : Int) (w : World) (hA : Ints w w.heap.size (.slice aa A.length ca) A) (hL : Ints w w.heap.size (.slice al nl cl) l) (hF : A.length ≤ 10) (h8 : ¬ (8 : Int) < (nl : Int)) (hM : ¬ ChainV.may ⟨ea, A⟩) :
    Calls Try.prog 5 #[.agg #[.int .i64 ea, .slice aa A.length ca], (.slice al nl cl), .int .i64 node] w fun e w' => e = .returned (.bool true) ∧ Below w.heap.size w w' := by
  have HT := Lib.hid (fun u => told12_any u)
  have HFA : Hid (∀ u v B, Ints u B v A → Calls Try.prog 17 #[.agg #[.int .i64 ea, v]] u fun e w' => e = .returned (.bool true) ∧ Below u.heap.size u w') := fun u v B h => few12_r ea v A B u h (decide_eq_true hF)
  have HMM : Hid (∀ u v, Ints u u.heap.size v A → Calls Try.prog 15 #[.agg #[.int .i64 ea, v]] u fun e w' => e = .returned (.bool false) ∧ Below u.heap.size u w') := fun u v h => refmaychain_r ea v A u.heap.size u h (Nat.le_refl _) false (decide_eq_false hM).symm
  have b0 := below_alloc w (.cells #[.int .i64 ea, .slice aa A.length ca] 25)
  have A0 := Lib.hid (R1.fresh (ex := ea) hA)
  have L0 := Lib.hid (ints_step hL b0)
  have G0 := Lib.hid (b0)
  clear b0 hA hL
  clear hF hM
  go_enter Try.func5, Try.ntmps5
  obtain ⟨p0a, p0b⟩ := A0.out.c.cells
  go_wp2_with fail
  clear p0a p0b
  refine (HFA.out _ _ _ A0.out.i).mono ?_
  rintro e w1 ⟨rfl, Bw1⟩
  have A1 := Lib.hid (A0.out.step Bw1)
  have L1 := Lib.hid (ints_step L0.out Bw1)
  have G1 := Lib.hid (below_step G0.out Bw1)
  clear A0 L0 G0 Bw1
  obtain ⟨p0a, p0b⟩ := A1.out.c.cells
  go_wp2_with fail
  clear p0a p0b
  refine (HMM.out _ _ A1.out.i).mono ?_
  rintro e w2 ⟨rfl, Bw2⟩
  have A2 := Lib.hid (A1.out.step Bw2)
  have L2 := Lib.hid (ints_step L1.out Bw2)
  have G2 := Lib.hid (below_step G1.out Bw2)
  clear A1 L1 G1 Bw2
  obtain ⟨p0a, p0b⟩ := A2.out.c.cells
  go_wp2_with fail
  clear p0a p0b
  refine (HT.out _).mono ?_
  rintro e w3 ⟨rfl, Bw3⟩
  have A3 := Lib.hid (A2.out.step Bw3)
  have L3 := Lib.hid (ints_step L2.out Bw3)
  have G3 := Lib.hid (below_step G2.out Bw3)
  clear A2 L2 G2 Bw3
  go_wp2
  go_returns
  exact ⟨rfl, G3.out⟩


set_option maxHeartbeats 8000000 in
set_option maxRecDepth 100000 in
theorem main (ea : Int) (aa : Option Addr) (ca : Nat) (A : List Int) (al : Option Addr) (nl cl : Nat) (l : List Int) (node : Int) (w : World) (hA : Ints w w.heap.size (.slice aa A.length ca) A) (hL : Ints w w.heap.size (.slice al nl cl) l) (hF : A.length ≤ 10) (h8 : ¬ (8 : Int) < (nl : Int)) (hM : ChainV.may ⟨ea, A⟩) (hl8 : l.length ≤ 100) (hlw : ∀ x ∈ l, Wf x) :
    Calls Try.prog 5 #[.agg #[.int .i64 ea, .slice aa A.length ca], (.slice al nl cl), .int .i64 node] w fun e w' => e = .returned (.bool true) ∧ Below w.heap.size w w' := by
  have HT := Lib.hid (fun u => told12_any u)
  have HFA : Hid (∀ u v B, Ints u B v A → Calls Try.prog 17 #[.agg #[.int .i64 ea, v]] u fun e w' => e = .returned (.bool true) ∧ Below u.heap.size u w') := fun u v B h => few12_r ea v A B u h (decide_eq_true hF)
  have HMM : Hid (∀ u v, Ints u u.heap.size v A → Calls Try.prog 15 #[.agg #[.int .i64 ea, v]] u fun e w' => e = .returned (.bool true) ∧ Below u.heap.size u w') := fun u v h => refmaychain_r ea v A u.heap.size u h (Nat.le_refl _) true (decide_eq_true hM).symm
  obtain ⟨ex, er, F, hF6, hx, x1, x2⟩ := withouts ea A l hM hl8 hlw
  obtain ⟨ez, eg, G, hG6, hz, z1, z2⟩ := withs ea A node hM
  have HX1 := Lib.hid x1
  have HX2 := Lib.hid x2
  have HZ1 := Lib.hid z1
  have HZ2 := Lib.hid z2
  have h5 := may_le hM
  have hb5 := may_below hM
  have HSF : Hid (∀ u v1 v2, Ints u u.heap.size v1 F → Ints u u.heap.size v2 F → Calls Try.prog 19 #[.agg #[.int .i64 ex, v1], .agg #[.int .i64 ex, v2]] u fun e w' => e = .returned (.bool true) ∧ Below u.heap.size u w') := fun u v1 v2 h1 h2 => by
    have := refsame_any ex ex v1 v2 F F u.heap.size u h1 h2 (Nat.le_refl _) (by omega)
    simpa using this
  have HSG : Hid (∀ u v1 v2, Ints u u.heap.size v1 G → Ints u u.heap.size v2 G → Calls Try.prog 19 #[.agg #[.int .i64 ez, v1], .agg #[.int .i64 ez, v2]] u fun e w' => e = .returned (.bool true) ∧ Below u.heap.size u w') := fun u v1 v2 h1 h2 => by
    have := refsame_any ez ez v1 v2 G G u.heap.size u h1 h2 (Nat.le_refl _) (by omega)
    simpa using this
  have hx' : (er = 0 ∧ nextC ea A ex F 5) ∨ er = 1 := by
    rcases hx with ⟨h1, h2, h3, h4⟩ | ⟨h1, _⟩
    · exact .inl ⟨h1, by rw [h2, h3]; exact left_next hM h4 hb5⟩
    · exact .inr h1
  have hz' : (eg = 0 ∧ nextC ea A ez G 5 ∧ chAt G ((G.length : Int) - 1) = node) ∨ eg = 1 := by
    rcases hz with ⟨h1, h2, h3, h4⟩ | ⟨h1, _⟩
    · refine .inl ⟨h1, by rw [h2, h3]; exact with_next hM h4 hb5 (by have := (with_may hM).1 h4; omega), ?_⟩
      rw [h3, List.length_append, List.length_singleton, show ((A.length + 1 : Nat) : Int) - 1 = (A.length : Int) by omega, chAt_in (by rw [List.length_append, List.length_singleton]; omega), List.getD_eq_getElem?_getD, List.getElem?_append_right (Nat.le_refl _)]
      simp
    · exact .inr h1
  have HXC := Lib.hid hx'
  have HZC := Lib.hid hz'
  have hG7 : G.length ≤ 1000000 := by omega
  have b0 := below_alloc w (.cells #[.int .i64 ea, .slice aa A.length ca] 25)
  have A0 := Lib.hid (R1.fresh (ex := ea) hA)
  have L0 := Lib.hid (ints_step hL b0)
  have G0 := Lib.hid (b0)
  clear b0 hA hL
  clear hF hM hl8 hlw hF6 hx x1 x2 hz z1 z2 h5 hb5 hx' hz' hG6
  have HG7 := Lib.hid hG7
  clear hG7
  go_enter Try.func5, Try.ntmps5
  obtain ⟨p0a, p0b⟩ := A0.out.c.cells
  go_wp2_with fail
  clear p0a p0b
  refine (HFA.out _ _ _ A0.out.i).mono ?_
  rintro e w1 ⟨rfl, Bw1⟩
  have A1 := Lib.hid (A0.out.step Bw1)
  have L1 := Lib.hid (ints_step L0.out Bw1)
  have G1 := Lib.hid (below_step G0.out Bw1)
  clear A0 L0 G0 Bw1
  obtain ⟨p0a, p0b⟩ := A1.out.c.cells
  go_wp2_with fail
  clear p0a p0b
  refine (HMM.out _ _ A1.out.i).mono ?_
  rintro e w2 ⟨rfl, Bw2⟩
  have A2 := Lib.hid (A1.out.step Bw2)
  have L2 := Lib.hid (ints_step L1.out Bw2)
  have G2 := Lib.hid (below_step G1.out Bw2)
  clear A1 L1 G1 Bw2
  obtain ⟨p0a, p0b⟩ := A2.out.c.cells
  go_wp2_with fail
  clear p0a p0b
  refine (HX1.out _ _ _ A2.out.i L2.out).mono ?_
  rintro e w3 ⟨aw3, mw3, cw3, rfl, Iw3, Bw3⟩
  have A3 := Lib.hid (A2.out.step Bw3.out)
  have L3 := Lib.hid (ints_step L2.out Bw3.out)
  have G3 := Lib.hid (below_step G2.out Bw3.out)
  clear A2 L2 G2 Bw3
  have bw3 := below_alloc w3 (.cells #[.int .i64 ex, .slice aw3 mw3 cw3] 25)
  have A4 := Lib.hid (A3.out.step bw3)
  have L4 := Lib.hid (ints_step L3.out bw3)
  have G4 := Lib.hid (below_step G3.out bw3)
  clear A3 L3 G3 bw3
  have X4 := Lib.hid (R1.fresh (ex := ex) Iw3.out)
  clear Iw3
  obtain ⟨p0a, p0b⟩ := A4.out.c.cells
  obtain ⟨p1a, p1b⟩ := X4.out.c.cells
  go_wp2_with fail
  clear p0a p0b p1a p1b
  refine (HX2.out _ _ _ A4.out.i L4.out).mono ?_
  rintro e w4 ⟨aw4, mw4, cw4, rfl, Iw4, Bw4⟩
  have A5 := Lib.hid (A4.out.step Bw4.out)
  have L5 := Lib.hid (ints_step L4.out Bw4.out)
  have G5 := Lib.hid (below_step G4.out Bw4.out)
  have X5 := Lib.hid (X4.out.step Bw4.out)
  clear A4 L4 G4 X4 Bw4
  have bw4 := below_alloc w4 (.cells #[.int .i64 ex, .slice aw4 mw4 cw4] 25)
  have A6 := Lib.hid (A5.out.step bw4)
  have L6 := Lib.hid (ints_step L5.out bw4)
  have G6 := Lib.hid (below_step G5.out bw4)
  have X6 := Lib.hid (X5.out.step bw4)
  clear A5 L5 G5 X5 bw4
  have Y6 := Lib.hid (R1.fresh (ex := ex) Iw4.out)
  clear Iw4
  obtain ⟨p0a, p0b⟩ := A6.out.c.cells
  obtain ⟨p1a, p1b⟩ := X6.out.c.cells
  obtain ⟨p2a, p2b⟩ := Y6.out.c.cells
  go_wp2_with fail
  clear p0a p0b p1a p1b p2a p2b
  refine (HZ1.out _ _ A6.out.i).mono ?_
  rintro e w5 ⟨aw5, mw5, cw5, rfl, Iw5, Bw5⟩
  have A7 := Lib.hid (A6.out.step Bw5.out)
  have L7 := Lib.hid (ints_step L6.out Bw5.out)
  have G7 := Lib.hid (below_step G6.out Bw5.out)
  have X7 := Lib.hid (X6.out.step Bw5.out)
  have Y7 := Lib.hid (Y6.out.step Bw5.out)
  clear A6 L6 G6 X6 Y6 Bw5
  have bw5 := below_alloc w5 (.cells #[.int .i64 ez, .slice aw5 mw5 cw5] 25)
  have A8 := Lib.hid (A7.out.step bw5)
  have L8 := Lib.hid (ints_step L7.out bw5)
  have G8 := Lib.hid (below_step G7.out bw5)
  have X8 := Lib.hid (X7.out.step bw5)
  have Y8 := Lib.hid (Y7.out.step bw5)
  clear A7 L7 G7 X7 Y7 bw5
  have Z8 := Lib.hid (R1.fresh (ex := ez) Iw5.out)
  clear Iw5
  obtain ⟨p0a, p0b⟩ := A8.out.c.cells
  obtain ⟨p1a, p1b⟩ := X8.out.c.cells
  obtain ⟨p2a, p2b⟩ := Y8.out.c.cells
  obtain ⟨p3a, p3b⟩ := Z8.out.c.cells
  go_wp2_with fail
  clear p0a p0b p1a p1b p2a p2b p3a p3b
  refine (HZ2.out _ _ A8.out.i).mono ?_
  rintro e w6 ⟨aw6, mw6, cw6, rfl, Iw6, Bw6⟩
  have A9 := Lib.hid (A8.out.step Bw6.out)
  have L9 := Lib.hid (ints_step L8.out Bw6.out)
  have G9 := Lib.hid (below_step G8.out Bw6.out)
  have X9 := Lib.hid (X8.out.step Bw6.out)
  have Y9 := Lib.hid (Y8.out.step Bw6.out)
  have Z9 := Lib.hid (Z8.out.step Bw6.out)
  clear A8 L8 G8 X8 Y8 Z8 Bw6
  have bw6 := below_alloc w6 (.cells #[.int .i64 ez, .slice aw6 mw6 cw6] 25)
  have A10 := Lib.hid (A9.out.step bw6)
  have L10 := Lib.hid (ints_step L9.out bw6)
  have G10 := Lib.hid (below_step G9.out bw6)
  have X10 := Lib.hid (X9.out.step bw6)
  have Y10 := Lib.hid (Y9.out.step bw6)
  have Z10 := Lib.hid (Z9.out.step bw6)
  clear A9 L9 G9 X9 Y9 Z9 bw6
  have W10 := Lib.hid (R1.fresh (ex := ez) Iw6.out)
  clear Iw6
  obtain ⟨p0a, p0b⟩ := A10.out.c.cells
  obtain ⟨p1a, p1b⟩ := X10.out.c.cells
  obtain ⟨p2a, p2b⟩ := Y10.out.c.cells
  obtain ⟨p3a, p3b⟩ := Z10.out.c.cells
  obtain ⟨p4a, p4b⟩ := W10.out.c.cells
  go_wp2_with fail
  clear p0a p0b p1a p1b p2a p2b p3a p3b p4a p4b
  refine (HSF.out _ _ _ X10.out.i Y10.out.i).mono ?_
  rintro e w7 ⟨rfl, Bw7⟩
  have A11 := Lib.hid (A10.out.step Bw7)
  have L11 := Lib.hid (ints_step L10.out Bw7)
  have G11 := Lib.hid (below_step G10.out Bw7)
  have X11 := Lib.hid (X10.out.step Bw7)
  have Y11 := Lib.hid (Y10.out.step Bw7)
  have Z11 := Lib.hid (Z10.out.step Bw7)
  have W11 := Lib.hid (W10.out.step Bw7)
  clear A10 L10 G10 X10 Y10 Z10 W10 Bw7
  obtain ⟨p0a, p0b⟩ := A11.out.c.cells
  obtain ⟨p1a, p1b⟩ := X11.out.c.cells
  obtain ⟨p2a, p2b⟩ := Y11.out.c.cells
  obtain ⟨p3a, p3b⟩ := Z11.out.c.cells
  obtain ⟨p4a, p4b⟩ := W11.out.c.cells
  go_wp2_with fail
  clear p0a p0b p1a p1b p2a p2b p3a p3b p4a p4b
  refine (HSG.out _ _ _ Z11.out.i W11.out.i).mono ?_
  rintro e w8 ⟨rfl, Bw8⟩
  have A12 := Lib.hid (A11.out.step Bw8)
  have L12 := Lib.hid (ints_step L11.out Bw8)
  have G12 := Lib.hid (below_step G11.out Bw8)
  have X12 := Lib.hid (X11.out.step Bw8)
  have Y12 := Lib.hid (Y11.out.step Bw8)
  have Z12 := Lib.hid (Z11.out.step Bw8)
  have W12 := Lib.hid (W11.out.step Bw8)
  clear A11 L11 G11 X11 Y11 Z11 W11 Bw8
  obtain ⟨p0a, p0b⟩ := A12.out.c.cells
  obtain ⟨p1a, p1b⟩ := X12.out.c.cells
  obtain ⟨p2a, p2b⟩ := Y12.out.c.cells
  obtain ⟨p3a, p3b⟩ := Z12.out.c.cells
  obtain ⟨p4a, p4b⟩ := W12.out.c.cells
  go_wp2_with fail
  clear p0a p0b p1a p1b p2a p2b p3a p3b p4a p4b
  refine (HT.out _).mono ?_
  rintro e w9 ⟨rfl, Bw9⟩
  have A13 := Lib.hid (A12.out.step Bw9)
  have L13 := Lib.hid (ints_step L12.out Bw9)
  have G13 := Lib.hid (below_step G12.out Bw9)
  have X13 := Lib.hid (X12.out.step Bw9)
  have Y13 := Lib.hid (Y12.out.step Bw9)
  have Z13 := Lib.hid (Z12.out.step Bw9)
  have W13 := Lib.hid (W12.out.step Bw9)
  clear A12 L12 G12 X12 Y12 Z12 W12 Bw9
  rcases HXC.out with ⟨rfl, hn1⟩ | rfl
  · have HN1 := Lib.hid hn1
    clear hn1
    obtain ⟨p0a, p0b⟩ := A13.out.c.cells
    obtain ⟨p1a, p1b⟩ := X13.out.c.cells
    obtain ⟨p2a, p2b⟩ := Y13.out.c.cells
    obtain ⟨p3a, p3b⟩ := Z13.out.c.cells
    obtain ⟨p4a, p4b⟩ := W13.out.c.cells
    go_wp2_with fail
    clear p0a p0b p1a p1b p2a p2b p3a p3b p4a p4b
    refine (chnext_r ea _ A ex _ F 5 _ _ A13.out.i X13.out.i (Nat.le_refl _) (decide_eq_true HN1.out)).mono ?_
    rintro e w10 ⟨rfl, Bw10⟩
    have A14 := Lib.hid (A13.out.step Bw10)
    have L14 := Lib.hid (ints_step L13.out Bw10)
    have G14 := Lib.hid (below_step G13.out Bw10)
    have X14 := Lib.hid (X13.out.step Bw10)
    have Y14 := Lib.hid (Y13.out.step Bw10)
    have Z14 := Lib.hid (Z13.out.step Bw10)
    have W14 := Lib.hid (W13.out.step Bw10)
    clear A13 L13 G13 X13 Y13 Z13 W13 Bw10
    rcases HZC.out with ⟨rfl, hn2, ht2⟩ | rfl
    · have HN2 := Lib.hid hn2
      have HTL := Lib.hid ht2
      clear hn2 ht2
      obtain ⟨p0a, p0b⟩ := A14.out.c.cells
      obtain ⟨p1a, p1b⟩ := X14.out.c.cells
      obtain ⟨p2a, p2b⟩ := Y14.out.c.cells
      obtain ⟨p3a, p3b⟩ := Z14.out.c.cells
      obtain ⟨p4a, p4b⟩ := W14.out.c.cells
      go_wp2_with fail
      clear p0a p0b p1a p1b p2a p2b p3a p3b p4a p4b
      refine (chnext_r ea _ A ez _ G 5 _ _ A14.out.i Z14.out.i (Nat.le_refl _) (decide_eq_true HN2.out)).mono ?_
      rintro e w11 ⟨rfl, Bw11⟩
      have A15 := Lib.hid (A14.out.step Bw11)
      have L15 := Lib.hid (ints_step L14.out Bw11)
      have G15 := Lib.hid (below_step G14.out Bw11)
      have X15 := Lib.hid (X14.out.step Bw11)
      have Y15 := Lib.hid (Y14.out.step Bw11)
      have Z15 := Lib.hid (Z14.out.step Bw11)
      have W15 := Lib.hid (W14.out.step Bw11)
      clear A14 L14 G14 X14 Y14 Z14 W14 Bw11
      obtain ⟨p0a, p0b⟩ := A15.out.c.cells
      obtain ⟨p1a, p1b⟩ := X15.out.c.cells
      obtain ⟨p2a, p2b⟩ := Y15.out.c.cells
      obtain ⟨p3a, p3b⟩ := Z15.out.c.cells
      obtain ⟨p4a, p4b⟩ := W15.out.c.cells
      go_wp2_with fail
      clear p0a p0b p1a p1b p2a p2b p3a p3b p4a p4b
      refine (chtail_r ez _ G HG7.out _ _ Z15.out.i (Nat.le_refl _) HTL.out).mono ?_
      rintro e w12 ⟨rfl, Bw12⟩
      have A16 := Lib.hid (A15.out.step Bw12)
      have L16 := Lib.hid (ints_step L15.out Bw12)
      have G16 := Lib.hid (below_step G15.out Bw12)
      have X16 := Lib.hid (X15.out.step Bw12)
      have Y16 := Lib.hid (Y15.out.step Bw12)
      have Z16 := Lib.hid (Z15.out.step Bw12)
      have W16 := Lib.hid (W15.out.step Bw12)
      clear A15 L15 G15 X15 Y15 Z15 W15 Bw12
      go_wp2
      go_returns
      exact ⟨rfl, G16.out⟩
    · obtain ⟨p0a, p0b⟩ := A14.out.c.cells
      obtain ⟨p1a, p1b⟩ := X14.out.c.cells
      obtain ⟨p2a, p2b⟩ := Y14.out.c.cells
      obtain ⟨p3a, p3b⟩ := Z14.out.c.cells
      obtain ⟨p4a, p4b⟩ := W14.out.c.cells
      go_wp2
      go_returns
      exact ⟨rfl, G14.out⟩
  · rcases HZC.out with ⟨rfl, hn2, ht2⟩ | rfl
    · have HN2 := Lib.hid hn2
      have HTL := Lib.hid ht2
      clear hn2 ht2
      obtain ⟨p0a, p0b⟩ := A13.out.c.cells
      obtain ⟨p1a, p1b⟩ := X13.out.c.cells
      obtain ⟨p2a, p2b⟩ := Y13.out.c.cells
      obtain ⟨p3a, p3b⟩ := Z13.out.c.cells
      obtain ⟨p4a, p4b⟩ := W13.out.c.cells
      go_wp2_with fail
      clear p0a p0b p1a p1b p2a p2b p3a p3b p4a p4b
      refine (chnext_r ea _ A ez _ G 5 _ _ A13.out.i Z13.out.i (Nat.le_refl _) (decide_eq_true HN2.out)).mono ?_
      rintro e w11 ⟨rfl, Bw11⟩
      have A14 := Lib.hid (A13.out.step Bw11)
      have L14 := Lib.hid (ints_step L13.out Bw11)
      have G14 := Lib.hid (below_step G13.out Bw11)
      have X14 := Lib.hid (X13.out.step Bw11)
      have Y14 := Lib.hid (Y13.out.step Bw11)
      have Z14 := Lib.hid (Z13.out.step Bw11)
      have W14 := Lib.hid (W13.out.step Bw11)
      clear A13 L13 G13 X13 Y13 Z13 W13 Bw11
      obtain ⟨p0a, p0b⟩ := A14.out.c.cells
      obtain ⟨p1a, p1b⟩ := X14.out.c.cells
      obtain ⟨p2a, p2b⟩ := Y14.out.c.cells
      obtain ⟨p3a, p3b⟩ := Z14.out.c.cells
      obtain ⟨p4a, p4b⟩ := W14.out.c.cells
      go_wp2_with fail
      clear p0a p0b p1a p1b p2a p2b p3a p3b p4a p4b
      refine (chtail_r ez _ G HG7.out _ _ Z14.out.i (Nat.le_refl _) HTL.out).mono ?_
      rintro e w12 ⟨rfl, Bw12⟩
      have A15 := Lib.hid (A14.out.step Bw12)
      have L15 := Lib.hid (ints_step L14.out Bw12)
      have G15 := Lib.hid (below_step G14.out Bw12)
      have X15 := Lib.hid (X14.out.step Bw12)
      have Y15 := Lib.hid (Y14.out.step Bw12)
      have Z15 := Lib.hid (Z14.out.step Bw12)
      have W15 := Lib.hid (W14.out.step Bw12)
      clear A14 L14 G14 X14 Y14 Z14 W14 Bw12
      go_wp2
      go_returns
      exact ⟨rfl, G15.out⟩
    · obtain ⟨p0a, p0b⟩ := A13.out.c.cells
      obtain ⟨p1a, p1b⟩ := X13.out.c.cells
      obtain ⟨p2a, p2b⟩ := Y13.out.c.cells
      obtain ⟨p3a, p3b⟩ := Z13.out.c.cells
      obtain ⟨p4a, p4b⟩ := W13.out.c.cells
      go_wp2
      go_returns
      exact ⟨rfl, G13.out⟩

theorem walk (ea : Int) (va : Value) (A : List Int) (vl : Value) (l : List Int) (node : Int) (w : World) (hA : Ints w w.heap.size va A) (hL : Ints w w.heap.size vl l ∧ ∀ x ∈ l, Wf x) (_ : (Lit.int .i64 node).wf = true) :
    Calls Try.prog 5 #[.agg #[.int .i64 ea, va], vl, .int .i64 node] w fun e w' => e = .returned (.bool true) ∧ Below w.heap.size w w' := by
  obtain ⟨aa, ca, rfl⟩ : ∃ a c, va = .slice a A.length c := by obtain ⟨a, c, h, _⟩ := hA; exact ⟨a, c, h⟩
  obtain ⟨al, cl, rfl⟩ : ∃ a c, vl = .slice a l.length c := by obtain ⟨⟨a, c, h, _⟩, _⟩ := hL; exact ⟨a, c, h⟩
  by_cases h1 : A.length ≤ 10
  · by_cases h2 : (8 : Int) < (l.length : Int)
    · exact long ea aa ca A al l.length cl l node w hA hL.1 h1 h2
    · by_cases h3 : ChainV.may ⟨ea, A⟩
      · exact main ea aa ca A al l.length cl l node w hA hL.1 h1 h2 h3 (by omega) hL.2
      · exact never ea aa ca A al l.length cl l node w hA hL.1 h1 h2 h3
  · exact many ea aa ca A al l.length cl l node w hA hL.1 h1

set_option maxRecDepth 100000 in
theorem lifted (os : Os) (started : os.Started) (H : Type) (enc : TypeId × Value → H) :
    ReturnsInHanded {} Try.checked os 5 .any (Rows.chainTurnsSpec.pre6 enc Try.prog Try.f5 Rows.chainTurnsRow.domain false) (Rows.chainTurnsSpec.post enc Try.prog Try.f5 false true false false) := by
  refine returnsInHanded_of_change (C := Try.checked) own started (by kernel_rfl) Try.func5
    (ChangeSpec.witness6 (enc := enc) (C := Try.checked) false ⟨#[], #[.agg #[.int .i64 0, .slice none 0 0], .slice none 0 0, .int .i64 0], []⟩ 8 (by kernel_rfl) (by kernel_rfl) (by kernel_rfl) (by kernel_rfl)) ?_
  intro W base args ds gs before hval0 hW hcnd _
  have hval : ∀ (j : Nat) t v, Try.f5.params[j]? = some t → args[j]? = some v → Value.okWide Try.prog W .any base t v := hval0
  have hW' := hW
  obtain ⟨p, q, hA0, hV, rfl, hfz, hnd⟩ := hW
  have hA : DataW.TrodAll enc Try.prog W 0 (fun _ => true) true Try.f5.params.toList args.toList ds p := hA0
  rw [Try.params5] at hA hval
  obtain ⟨v0, vs0, d0, ds0, p0, q0, hargs, rfl, rfl, h0, r0⟩ := trodAll_cons hA
  obtain ⟨v1, vs1, d1, ds1, p1, q1, rfl, rfl, rfl, h1, r1⟩ := trodAll_cons r0
  obtain ⟨v2, vs2, d2, ds2, p2, q2, rfl, rfl, rfl, h2, r2⟩ := trodAll_cons r1
  obtain ⟨rfl, rfl, rfl⟩ := trodAll_nil r2
  obtain rfl : args = #[v0, v1, v2] := by cases args; simp_all
  obtain ⟨rfl, rfl⟩ := trodVars_none hV
  have k0 := h0
  have lt0 : ∀ x ∈ p0, x.block < W.heap.size := by obtain ⟨m, hm⟩ := k0; exact DataW.trod_lt m _ _ _ hm
  obtain ⟨xa0, xb0, xc0, xd0, l0, rfl, w0⟩ := chain_open (hval 0 25 v0 rfl rfl) h0
  obtain ⟨a1, len1, cap1, rfl⟩ := okWide_slice Try.underlying22 (hval 1 22 v1 rfl rfl)
  have k1 := h1
  have lt1 : ∀ x ∈ p1, x.block < W.heap.size := by obtain ⟨m, hm⟩ := k1; exact DataW.trod_lt m _ _ _ hm
  obtain ⟨l1, w1⟩ := wints_open h1
  obtain ⟨a2, rfl, rfl, rfl, w2⟩ := open_int Try.underlying3 (hval 2 3 v2 rfl rfl) h2
  clear hA0 hval0
  refine (walk xa0 (.slice xb0 xc0 xd0) l0 (.slice a1 len1 cap1) l1 a2 W w0 w1 w2).mono fun e W' ⟨he, bel⟩ => ?_
  subst he
  exact ⟨_, rfl, _, _, _, [], _, [], hW', trodAll_mk1 (shut_bool Try.underlying4 _), (trodAll_cons_mk (Below.trod laidOut (by kernel_rfl) (of_decide_eq_true (by kernel_rfl)) k0 bel lt0) (trodAll_cons_mk (Below.trod laidOut (by kernel_rfl) (of_decide_eq_true (by kernel_rfl)) k1 bel lt1) (trodAll_cons_mk (shut_int Try.underlying3 w2) trodAll_mk0))), rfl, bel.frame _, fun h => by cases h⟩

theorem over : Rows.chainTurnsRow.holds Try.pinned (OpenSpec.ofChange Rows.chainTurnsSpec) :=
  OpenClaim.holds_of_wide 5 Try.f5 rfl rfl rfl rfl rfl rfl rfl ⟨rfl, rfl, rfl, rfl, rfl⟩ rfl rfl rfl rfl rfl (by kernel_rfl) Try.func5 (by kernel_rfl)
    (of_decide_eq_true (by kernel_rfl)) (by unfold Func.isWrapper; first | (rw [if_pos (by decide +kernel)]; kernel_rfl) | (rw [if_neg (by decide +kernel)]; exact ⟨rfl, rfl⟩))
    (fun os started H enc _ => lifted os started H enc)
end Go.Proofs.Ytnliadnpoledmaa.ChainTurns

namespace Go.Proofs.Ytnliadnpoledmaa
theorem chainTurns_holds : Rows.ChainTurnsSaid := ChainTurns.over
#print axioms chainTurns_holds
end Go.Proofs.Ytnliadnpoledmaa
