/-
  Those that are left stand in their order, without those that went; all can't go (12.2), as ChainWithout says: for any chain that may be, any nodes (at most 6). No condition.
-/
import Derived.Test.YtnliadnpoledmaaChainWays
import Derived.Test.YtnliadnpoledmaaItemArgs
import Derived.Test.YtnliadnpoledmaaBookArgs
namespace Go.Proofs.Ytnliadnpoledmaa.ChainWithout
open Go.ChangeShapes Go.WideShapes Go.ChangeAt Go.RowKit

set_option maxHeartbeats 4000000 in
set_option maxRecDepth 100000 in
theorem many (ea : Int) (aa : Option Addr) (m ca : Nat) (A : List Int) (al : Option Addr) (nl cl : Nat) (l : List Int) (w : World) (hA : Ints w w.heap.size (.slice aa m ca) A) (hL : Ints w w.heap.size (.slice al nl cl) l) (hF : ¬ A.length ≤ 10) :
    Calls Try.prog 7 #[.agg #[.int .i64 ea, .slice aa m ca], (.slice al nl cl)] w fun e w' => e = .returned (.bool true) ∧ Below w.heap.size w w' := by
  have HT := Lib.hid (fun u => told12_any u)
  have HFA : Hid (∀ u v B, Ints u B v A → Calls Try.prog 17 #[.agg #[.int .i64 ea, v]] u fun e w' => e = .returned (.bool false) ∧ Below u.heap.size u w') := fun u v B h => few12_r ea v A B u h (decide_eq_false hF)
  have b0 := below_alloc w (.cells #[.int .i64 ea, .slice aa m ca] 25)
  have A0 := Lib.hid (R1.fresh (ex := ea) hA)
  have L0 := Lib.hid (ints_step hL b0)
  have G0 := Lib.hid (b0)
  clear b0 hA hL
  clear hF 
  go_enter Try.func7, Try.ntmps7
  obtain ⟨p0a, p0b⟩ := A0.out.c.cells
  go_wp2_with fail
  clear p0a p0b
  refine (HFA.out _ _ _ A0.out.i).mono ?_
  rintro e w1 ⟨rfl, Bw1⟩
  have A1 := Lib.hid (A0.out.step Bw1)
  have L1 := Lib.hid (ints_step L0.out Bw1)
  have G1 := Lib.hid (below_step G0.out Bw1)
  clear A0 L0 G0 Bw1
  obtain ⟨p0a, p0b⟩ := A1.out.c.cells
  go_wp2_with fail
  clear p0a p0b
  refine (HT.out _).mono ?_
  rintro e w3 ⟨rfl, Bw3⟩
  have A2 := Lib.hid (A1.out.step Bw3)
  have L2 := Lib.hid (ints_step L1.out Bw3)
  have G2 := Lib.hid (below_step G1.out Bw3)
  clear A1 L1 G1 Bw3
  go_wp2
  go_returns
  exact ⟨rfl, G2.out⟩

set_option maxHeartbeats 4000000 in
set_option maxRecDepth 100000 in
theorem long (ea : Int) (aa : Option Addr) (m ca : Nat) (A : List Int) (al : Option Addr) (nl cl : Nat) (l : List Int) (w : World) (hA : Ints w w.heap.size (.slice aa m ca) A) (hL : Ints w w.heap.size (.slice al nl cl) l) (hF : A.length ≤ 10) (h8 : (6 : Int) < (nl : Int)) :
    Calls Try.prog 7 #[.agg #[.int .i64 ea, .slice aa m ca], (.slice al nl cl)] w fun e w' => e = .returned (.bool true) ∧ Below w.heap.size w w' := by
  have HT := Lib.hid (fun u => told12_any u)
  have HFA : Hid (∀ u v B, Ints u B v A → Calls Try.prog 17 #[.agg #[.int .i64 ea, v]] u fun e w' => e = .returned (.bool true) ∧ Below u.heap.size u w') := fun u v B h => few12_r ea v A B u h (decide_eq_true hF)
  have b0 := below_alloc w (.cells #[.int .i64 ea, .slice aa m ca] 25)
  have A0 := Lib.hid (R1.fresh (ex := ea) hA)
  have L0 := Lib.hid (ints_step hL b0)
  have G0 := Lib.hid (b0)
  clear b0 hA hL
  clear hF 
  go_enter Try.func7, Try.ntmps7
  obtain ⟨p0a, p0b⟩ := A0.out.c.cells
  go_wp2_with fail
  clear p0a p0b
  refine (HFA.out _ _ _ A0.out.i).mono ?_
  rintro e w1 ⟨rfl, Bw1⟩
  have A1 := Lib.hid (A0.out.step Bw1)
  have L1 := Lib.hid (ints_step L0.out Bw1)
  have G1 := Lib.hid (below_step G0.out Bw1)
  clear A0 L0 G0 Bw1
  obtain ⟨p0a, p0b⟩ := A1.out.c.cells
  go_wp2_with fail
  clear p0a p0b
  refine (HT.out _).mono ?_
  rintro e w3 ⟨rfl, Bw3⟩
  have A2 := Lib.hid (A1.out.step Bw3)
  have L2 := Lib.hid (ints_step L1.out Bw3)
  have G2 := Lib.hid (below_step G1.out Bw3)
  clear A1 L1 G1 Bw3
  go_wp2
  go_returns
  exact ⟨rfl, G2.out⟩

set_option maxHeartbeats 4000000 in
set_option maxRecDepth 100000 in
theorem never (ea : Int) (aa : Option Addr) (m ca : Nat) (A : List Int) (al : Option Addr) (nl cl : Nat) (l : List Int) (w : World) (hA : Ints w w.heap.size (.slice aa m ca) A) (hL : Ints w w.heap.size (.slice al nl cl) l) (hF : A.length ≤ 10) (h8 : ¬ (6 : Int) < (nl : Int)) (hM : ¬ ChainV.may ⟨ea, A⟩) :
    Calls Try.prog 7 #[.agg #[.int .i64 ea, .slice aa m ca], (.slice al nl cl)] w fun e w' => e = .returned (.bool true) ∧ Below w.heap.size w w' := by
  have HT := Lib.hid (fun u => told12_any u)
  have HFA : Hid (∀ u v B, Ints u B v A → Calls Try.prog 17 #[.agg #[.int .i64 ea, v]] u fun e w' => e = .returned (.bool true) ∧ Below u.heap.size u w') := fun u v B h => few12_r ea v A B u h (decide_eq_true hF)
  have HMM : Hid (∀ u v, Ints u u.heap.size v A → Calls Try.prog 15 #[.agg #[.int .i64 ea, v]] u fun e w' => e = .returned (.bool false) ∧ Below u.heap.size u w') := fun u v h => refmaychain_r ea v A u.heap.size u h (Nat.le_refl _) false (decide_eq_false hM).symm
  have b0 := below_alloc w (.cells #[.int .i64 ea, .slice aa m ca] 25)
  have A0 := Lib.hid (R1.fresh (ex := ea) hA)
  have L0 := Lib.hid (ints_step hL b0)
  have G0 := Lib.hid (b0)
  clear b0 hA hL
  clear hF hM
  go_enter Try.func7, Try.ntmps7
  obtain ⟨p0a, p0b⟩ := A0.out.c.cells
  go_wp2_with fail
  clear p0a p0b
  refine (HFA.out _ _ _ A0.out.i).mono ?_
  rintro e w1 ⟨rfl, Bw1⟩
  have A1 := Lib.hid (A0.out.step Bw1)
  have L1 := Lib.hid (ints_step L0.out Bw1)
  have G1 := Lib.hid (below_step G0.out Bw1)
  clear A0 L0 G0 Bw1
  obtain ⟨p0a, p0b⟩ := A1.out.c.cells
  go_wp2_with fail
  clear p0a p0b
  refine (HMM.out _ _ A1.out.i).mono ?_
  rintro e w2 ⟨rfl, Bw2⟩
  have A2 := Lib.hid (A1.out.step Bw2)
  have L2 := Lib.hid (ints_step L1.out Bw2)
  have G2 := Lib.hid (below_step G1.out Bw2)
  clear A1 L1 G1 Bw2
  obtain ⟨p0a, p0b⟩ := A2.out.c.cells
  go_wp2_with fail
  clear p0a p0b
  refine (HT.out _).mono ?_
  rintro e w3 ⟨rfl, Bw3⟩
  have A3 := Lib.hid (A2.out.step Bw3)
  have L3 := Lib.hid (ints_step L2.out Bw3)
  have G3 := Lib.hid (below_step G2.out Bw3)
  clear A2 L2 G2 Bw3
  go_wp2
  go_returns
  exact ⟨rfl, G3.out⟩

set_option maxHeartbeats 4000000 in
set_option maxRecDepth 100000 in
theorem top (ea : Int) (aa : Option Addr) (m ca : Nat) (A : List Int) (al : Option Addr) (nl cl : Nat) (l : List Int) (w : World) (hA : Ints w w.heap.size (.slice aa m ca) A) (hL : Ints w w.heap.size (.slice al nl cl) l) (hF : A.length ≤ 10) (h8 : ¬ (6 : Int) < (nl : Int)) (hM : ChainV.may ⟨ea, A⟩) (h9 : 1073741824 ≤ ea) :
    Calls Try.prog 7 #[.agg #[.int .i64 ea, .slice aa m ca], (.slice al nl cl)] w fun e w' => e = .returned (.bool true) ∧ Below w.heap.size w w' := by
  have HT := Lib.hid (fun u => told12_any u)
  have HFA : Hid (∀ u v B, Ints u B v A → Calls Try.prog 17 #[.agg #[.int .i64 ea, v]] u fun e w' => e = .returned (.bool true) ∧ Below u.heap.size u w') := fun u v B h => few12_r ea v A B u h (decide_eq_true hF)
  have HMM : Hid (∀ u v, Ints u u.heap.size v A → Calls Try.prog 15 #[.agg #[.int .i64 ea, v]] u fun e w' => e = .returned (.bool true) ∧ Below u.heap.size u w') := fun u v h => refmaychain_r ea v A u.heap.size u h (Nat.le_refl _) true (decide_eq_true hM).symm
  have b0 := below_alloc w (.cells #[.int .i64 ea, .slice aa m ca] 25)
  have A0 := Lib.hid (R1.fresh (ex := ea) hA)
  have L0 := Lib.hid (ints_step hL b0)
  have G0 := Lib.hid (b0)
  clear b0 hA hL
  clear hF hM
  go_enter Try.func7, Try.ntmps7
  obtain ⟨p0a, p0b⟩ := A0.out.c.cells
  go_wp2_with fail
  clear p0a p0b
  refine (HFA.out _ _ _ A0.out.i).mono ?_
  rintro e w1 ⟨rfl, Bw1⟩
  have A1 := Lib.hid (A0.out.step Bw1)
  have L1 := Lib.hid (ints_step L0.out Bw1)
  have G1 := Lib.hid (below_step G0.out Bw1)
  clear A0 L0 G0 Bw1
  obtain ⟨p0a, p0b⟩ := A1.out.c.cells
  go_wp2_with fail
  clear p0a p0b
  refine (HMM.out _ _ A1.out.i).mono ?_
  rintro e w2 ⟨rfl, Bw2⟩
  have A2 := Lib.hid (A1.out.step Bw2)
  have L2 := Lib.hid (ints_step L1.out Bw2)
  have G2 := Lib.hid (below_step G1.out Bw2)
  clear A1 L1 G1 Bw2
  obtain ⟨p0a, p0b⟩ := A2.out.c.cells
  go_wp2_with fail
  clear p0a p0b
  refine (HT.out _).mono ?_
  rintro e w3 ⟨rfl, Bw3⟩
  have A3 := Lib.hid (A2.out.step Bw3)
  have L3 := Lib.hid (ints_step L2.out Bw3)
  have G3 := Lib.hid (below_step G2.out Bw3)
  clear A2 L2 G2 Bw3
  go_wp2
  go_returns
  exact ⟨rfl, G3.out⟩


set_option maxHeartbeats 8000000 in
set_option maxRecDepth 100000 in
theorem main (ea : Int) (aa : Option Addr) (m ca : Nat) (A : List Int) (al : Option Addr) (nl cl : Nat) (l : List Int) (w : World) (hA : Ints w w.heap.size (.slice aa m ca) A) (hL : Ints w w.heap.size (.slice al nl cl) l) (hm : m = A.length) (hq : nl = l.length) (hF : A.length ≤ 10) (h8 : ¬ (6 : Int) < (nl : Int)) (hM : ChainV.may ⟨ea, A⟩) (h9 : ¬ 1073741824 ≤ ea) (hl8 : l.length ≤ 100) (hlw : ∀ x ∈ l, Wf x) :
    Calls Try.prog 7 #[.agg #[.int .i64 ea, .slice aa m ca], (.slice al nl cl)] w fun e w' => e = .returned (.bool true) ∧ Below w.heap.size w w' := by
  obtain ⟨i0, hi, hz0, hz1, hz2⟩ := info_parts info_int12
  have HT := Lib.hid (fun u => told12_any u)
  have HFA : Hid (∀ u v B, Ints u B v A → Calls Try.prog 17 #[.agg #[.int .i64 ea, v]] u fun e w' => e = .returned (.bool true) ∧ Below u.heap.size u w') := fun u v B h => few12_r ea v A B u h (decide_eq_true hF)
  have HMM : Hid (∀ u v, Ints u u.heap.size v A → Calls Try.prog 15 #[.agg #[.int .i64 ea, v]] u fun e w' => e = .returned (.bool true) ∧ Below u.heap.size u w') := fun u v h => refmaychain_r ea v A u.heap.size u h (Nat.le_refl _) true (decide_eq_true hM).symm
  obtain ⟨ex, er, F, hF6, hx, x1, _⟩ := withouts ea A l hM hl8 hlw
  have HX1 := Lib.hid x1
  have h5 := may_le hM
  have hmw := may_wrap hM
  have hx' : (leftL A l ≠ [] ∧ er = 0 ∧ ex = ea + 1 ∧ F = leftL A l) ∨ (leftL A l = [] ∧ er = 1) := by
    rcases hx with ⟨h1, h2, h3, h4⟩ | ⟨h1, _, _, h4⟩
    · exact .inl ⟨((leftL_may hM).1 h4).2, h1, h2, h3⟩
    · refine .inr ⟨?_, h1⟩
      by_cases h : leftL A l = []
      · exact h
      · exact absurd ((leftL_may hM).2 ⟨by omega, h⟩) h4
  have HXC := Lib.hid hx'
  have HM := Lib.hid hm
  have HQ := Lib.hid hq
  have HW := Lib.hid hmw
  have hm5 : m ≤ 5 := by omega
  have hln5 := leftL_len A l
  have b0 := below_alloc w (.cells #[.int .i64 ea, .slice aa m ca] 25)
  have A0 := Lib.hid (R1.fresh (ex := ea) hA)
  have L0 := Lib.hid (ints_step hL b0)
  have G0 := Lib.hid (b0)
  clear b0 hA hL
  clear hF hM hl8 hlw hF6 hx x1 hx' h5 hm hq hmw
  have HLN := Lib.hid hln5
  clear hln5
  go_enter Try.func7, Try.ntmps7
  obtain ⟨p0a, p0b⟩ := A0.out.c.cells
  go_wp2_with fail
  clear p0a p0b
  refine (HFA.out _ _ _ A0.out.i).mono ?_
  rintro e w1 ⟨rfl, Bw1⟩
  have A1 := Lib.hid (A0.out.step Bw1)
  have L1 := Lib.hid (ints_step L0.out Bw1)
  have G1 := Lib.hid (below_step G0.out Bw1)
  clear A0 L0 G0 Bw1
  obtain ⟨p0a, p0b⟩ := A1.out.c.cells
  go_wp2_with fail
  clear p0a p0b
  refine (HMM.out _ _ A1.out.i).mono ?_
  rintro e w2 ⟨rfl, Bw2⟩
  have A2 := Lib.hid (A1.out.step Bw2)
  have L2 := Lib.hid (ints_step L1.out Bw2)
  have G2 := Lib.hid (below_step G1.out Bw2)
  clear A1 L1 G1 Bw2
  obtain ⟨p0a, p0b⟩ := A2.out.c.cells
  go_wp2_with fail
  clear p0a p0b
  refine (HX1.out _ _ _ A2.out.i L2.out).mono ?_
  rintro e w3 ⟨aw3, mw3, cw3, rfl, Iw3, Bw3⟩
  have A3 := Lib.hid (A2.out.step Bw3.out)
  have L3 := Lib.hid (ints_step L2.out Bw3.out)
  have G3 := Lib.hid (below_step G2.out Bw3.out)
  clear A2 L2 G2 Bw3
  have bw3 := below_alloc w3 (.cells #[.int .i64 ex, .slice aw3 mw3 cw3] 25)
  have A4 := Lib.hid (A3.out.step bw3)
  have L4 := Lib.hid (ints_step L3.out bw3)
  have G4 := Lib.hid (below_step G3.out bw3)
  clear A3 L3 G3 bw3
  have X4 := Lib.hid (R1.fresh (ex := ex) Iw3.out)
  clear Iw3
  obtain ⟨p0a, p0b⟩ := A4.out.c.cells
  obtain ⟨p1a, p1b⟩ := X4.out.c.cells
  go_wp2_with fail
  clear p0a p0b p1a p1b
  have ZA := Lib.hid A4.out
  have ZL := Lib.hid L4.out
  have ZX := Lib.hid X4.out
  have ZG := Lib.hid G4.out
  clear A4 L4 X4 G4
  obtain ⟨W, hW⟩ : ∃ W, W = w3.alloc (.cells #[.int .i64 ex, .slice aw3 mw3 cw3] 25) := ⟨_, rfl⟩
  rw [← hW] at ZA ZL ZX ZG ⊢
  clear hW
  go_loopw [7, 8] (fun s7 s8 wr => ∃ (i : Nat) (a : Option Addr) (c : Nat), i ≤ m ∧ s7 = .slice a (leftL (A.take i) l).length c ∧ s8 = .int .i64 i ∧ Hid (wr.ownsRow W.heap.size 3 1 (.slice a (leftL (A.take i) l).length c) (leftL (A.take i) l).length (intCells (leftL (A.take i) l)) ∧ Below W.heap.size W wr)) (fun _ s8 _ => m - (intOf s8).toNat)
  case atStart => exact ⟨0, none, 0, Nat.zero_le _, by rw [List.take_zero, leftL_nil]; rfl, rfl, by show World.ownsRow _ _ _ _ _ _ _ ∧ _; rw [List.take_zero, leftL_nil]; exact ⟨World.ownsRow_nil _ _ _ _, Below.refl _ _⟩⟩
  case round =>
    obtain ⟨i, a, c, hi', rfl, rfl, HR⟩ := hrel
    have ZA1 := Lib.hid (ZA.out.step HR.out.2)
    obtain ⟨b0, b1⟩ := ZA1.out.c.cells
    by_cases hlt : i < m
    · obtain ⟨b, off, rfl, hb, hc0⟩ := (ints_cell ZA.out.i).2 i hlt
      have hc := (HR.out.2.cell (p := ⟨b, off + i, none⟩) hb).trans hc0
      obtain ⟨x, hx⟩ : ∃ x, x = A.getD i 0 := ⟨_, rfl⟩
      rw [← hx] at hc
      have HX := Lib.hid hx
      have HC := Lib.hid hc
      clear hx hc0
      have hbW := HR.out.2.size
      go_wp2_with fail
      obtain ⟨wo, hwo⟩ : ∃ wo : World, wo = wr := ⟨_, rfl⟩
      subst hwo
      go_loopw [9, 10] (fun s9 s10 wq => ∃ k : Nat, s9 = .bool (decide (x ∈ l.take k)) ∧ s10 = .int .i64 k ∧ k ≤ nl ∧ Below wo.heap.size wo wq) (fun _ s10 _ => nl - (intOf s10).toNat)
      case atStart => exact ⟨0, by simp, rfl, Nat.zero_le _, Below.refl _ _⟩
      case round =>
        obtain ⟨k, rfl, rfl, hkq, hbq⟩ := hrel
        have HBQ := Lib.hid hbq
        have i0' : (0 : Int) ≤ (i : Int) := by omega
        have i1' : (i : Int) < (m : Int) := by omega
        by_cases hk : k < nl
        · obtain ⟨lb, lo, rfl, hlb, hlc⟩ := (ints_cell ZL.out).2 k hk
          have hlc' := (HBQ.out.cell (p := ⟨lb, lo + k, none⟩) (show lb < wo.heap.size by omega)).trans ((HR.out.2.cell (p := ⟨lb, lo + k, none⟩) hlb).trans hlc)
          obtain ⟨y, hy⟩ : ∃ y, y = l.getD k 0 := ⟨_, rfl⟩
          rw [← hy] at hlc'
          have HT1 : Hid (∀ z : Int, z ∈ l.take (k + 1) ↔ (z ∈ l.take k ∨ z = y)) := fun z => by
            rw [take_snoc l k (by have := HQ.out; omega), ← hy, List.mem_append, List.mem_singleton]
          have c1 := (HBQ.out.cell (p := ⟨b, off + i, none⟩) (show b < wo.heap.size by omega)).trans HC.out
          obtain ⟨e0, e1⟩ := (ZA1.out.step HBQ.out).c.cells
          have k0' : (0 : Int) ≤ (k : Int) := by omega
          have k1' : (k : Int) < (nl : Int) := by omega
          clear hy hlc b0 b1 hc hbq hlb hb
          by_cases hin : x ∈ l.take k
          · have hd : decide (x ∈ l.take k) = true := decide_eq_true hin
            have hd2 : Hid (Value.bool true = .bool (decide (x ∈ l.take (k + 1)))) := by show _ = _; rw [decide_eq_true ((HT1.out x).2 (.inl hin))]
            rw [hd]
            clear hin hd
            go_wp2
            go_quiet (fail)
            go_wp2
            go_roundw
            case rel => exact ⟨k + 1, hd2.out, by go_num, by omega, below_drewN HBQ.out _⟩
            case measure => simp [intOf]; omega
          · have hd : decide (x ∈ l.take k) = false := decide_eq_false hin
            rw [hd]
            by_cases hyx : y = x
            · have hd2 : Hid (Value.bool true = .bool (decide (x ∈ l.take (k + 1)))) := by show _ = _; rw [decide_eq_true ((HT1.out x).2 (.inr hyx.symm))]
              have hyb : (y == x) = true := by simp [hyx]
              clear hin hd hyx
              go_wp2
              go_quiet (fail)
              go_wp2
              go_roundw
              case rel => exact ⟨k + 1, by first | exact hd2.out | (rw [hyb]; exact hd2.out), by go_num, by omega, below_drewN HBQ.out _⟩
              case measure => simp [intOf]; omega
            · have hd2 : Hid (Value.bool false = .bool (decide (x ∈ l.take (k + 1)))) := by
                show _ = _
                rw [decide_eq_false fun h => ?_]
                rcases (HT1.out x).1 h with h | h
                · exact hin h
                · exact hyx h.symm
              have hyb : (y == x) = false := beq_eq_false_iff_ne.2 hyx
              clear hin hd hyx
              go_wp2
              go_quiet (fail)
              go_wp2
              go_roundw
              case rel => exact ⟨k + 1, by first | exact hd2.out | (rw [hyb]; exact hd2.out), by go_num, by omega, below_drewN HBQ.out _⟩
              case measure => simp [intOf]; omega
        · obtain rfl : k = nl := by omega
          have hsL : Hid (l.take k = l) := List.take_of_length_le (by have := HQ.out; omega)
          have c1 := (HBQ.out.cell (p := ⟨b, off + i, none⟩) (show b < wo.heap.size by omega)).trans HC.out
          obtain ⟨e0, e1⟩ := (ZA1.out.step HBQ.out).c.cells
          have HT1 : Hid (A.take (i + 1) = A.take i ++ [x]) := by show _ = _; rw [HX.out]; exact take_snoc A i (by have := HM.out; omega)
          have hln := leftL_len (A.take i) l
          rw [List.length_take] at hln
          rw [hsL.out]
          by_cases hin : x ∈ l
          · have HN : Hid (leftL (A.take (i + 1)) l = leftL (A.take i) l) := by show _ = _; rw [HT1.out]; exact leftL_snoc_in hin
            rw [decide_eq_true hin]
            have HR2 : Hid (wr.ownsRow W.heap.size 3 1 (.slice a (leftL (A.take i) l).length c) (leftL (A.take i) l).length (intCells (leftL (A.take i) l)) ∧ Below W.heap.size W wr) := ⟨rowOn HR.out.1 HBQ.out, HR.out.2.trans (HBQ.out.mono hbW)⟩
            clear hin hbq b0 b1 hc hb
            go_wp2_with fail
            go_roundw
            case rel => exact ⟨i + 1, a, c, by omega, by rw [HN.out], by go_num, by rw [HN.out]; exact HR2.out⟩
            case measure => simp [intOf]; omega
          · have HN : Hid (leftL (A.take (i + 1)) l = leftL (A.take i) l ++ [x]) := by show _ = _; rw [HT1.out]; exact leftL_snoc_out hin
            have HR2 : Hid (wr.ownsRow W.heap.size 3 1 (.slice a (leftL (A.take i) l).length c) (leftL (A.take i) l).length (intCells (leftL (A.take i) l)) ∧ Below W.heap.size W wr) := ⟨rowOn HR.out.1 HBQ.out, HR.out.2.trans (HBQ.out.mono hbW)⟩
            rw [decide_eq_false hin]
            have hbW2 := HR2.out.2.size
            clear hin hbq b0 b1 hc hb
            go_wp2_with (at_builtin; refine wpList_append_own_src rfl (.tmp 64) (.tmp 70) 22 22 rfl W.heap.size 3 i0 (.int .i64 0) 1 8 Try.underlying22 hi hz0 hz1 hz2 rfl _ _ _ rfl (HR2.out.1.alloc _) _ 1 (intCells [x]) rfl (csrc1 wr _) ?c3 ?c4 ?c5 ?_)
            case c3 => unfold maxLen; omega
            case c4 => omega
            case c5 => simp; omega
            intro v2 w2 O2 G2
            obtain ⟨a2, c2, rfl⟩ := own_shape O2
            have B2 : Hid (Below W.heap.size W w2) := (HR2.out.2.alloc hbW2 _).grown G2 (by simp; omega) (fun y hy => (HR2.out.1.lt y hy).1)
            have O3 := Lib.hid O2
            clear O2 G2 e0 e1 c1
            go_wp2_with fail
            go_roundw
            case rel => exact ⟨i + 1, a2, c2, by omega, by rw [HN.out, List.length_append]; rfl, by go_num, by rw [HN.out, List.length_append, ← cells_app]; exact ⟨O3.out, B2.out⟩⟩
            case measure => simp [intOf]; omega
    · obtain rfl : i = m := by omega
      rw [List.take_of_length_le (by have := HM.out; omega)] at HR ⊢
      obtain ⟨K, hK⟩ : ∃ K, K = leftL A l := ⟨_, rfl⟩
      have HXC2 := HXC.out
      have hKl : K.length ≤ 1000000 := by rw [hK]; have := HLN.out; have := HM.out; omega
      have HKL := Lib.hid hKl
      rw [← hK] at HR HXC2 ⊢
      clear hK HXC hKl
      have ZX1 := Lib.hid (ZX.out.step HR.out.2)
      have ZI := Lib.hid (ints_own (B := wr.heap.size) HR.out.1 (Nat.le_refl _))
      have ZG1 := Lib.hid (below_step ZG.out HR.out.2)
      clear HR ZX ZA ZL ZG
      rcases HXC2 with ⟨hne, rfl, rfl, rfl⟩ | ⟨rfl, rfl⟩
      · obtain ⟨q, hq⟩ : ∃ q, F.length = q + 1 := ⟨F.length - 1, by have := List.length_pos_iff.2 hne; omega⟩
        obtain ⟨b, off, rfl, hb, hc0⟩ := (ints_cell ZI.out).2 0 (by rw [hq]; omega)
        obtain ⟨y0, hy0⟩ : ∃ y, F.getD 0 0 = y := ⟨_, rfl⟩
        rw [hy0] at hc0
        have HHD : Hid (∀ u, Below wr.heap.size wr u → Calls Try.prog 23 #[.agg #[.int .i64 (ea + 1), .slice aw3 mw3 cw3]] u fun e w' => e = .returned (.int .i64 y0) ∧ Below u.heap.size u w') := fun u hu => chhead_r (ea + 1) _ F u.heap.size u (ZX1.out.step hu).i (Nat.le_refl _) (by have := chAt_in (L := F) (k := 0) (by omega); rw [← hy0]; exact this)
        have HII : Hid (∀ u, Below wr.heap.size wr u → Calls Try.prog 27 #[.slice aw3 mw3 cw3, .slice (some ⟨b, off, none⟩) F.length c] u fun e w' => e = .returned (.bool true) ∧ Below u.heap.size u w') := fun u hu => by
          have := refints_any _ _ F F u.heap.size u (ZX1.out.step hu).i (ints_step ZI.out hu) (Nat.le_refl _) HKL.out
          simpa using this
        rw [hq] at HII ⊢
        have FX : Hid (∀ u, Below wr.heap.size wr u → u.cell? ⟨w.heap.size, 0, none⟩ = some (.int .i64 ea) ∧ u.cell? ⟨w.heap.size, 1, none⟩ = some (.slice aa i ca) ∧ u.cell? ⟨w3.heap.size, 0, none⟩ = some (.int .i64 (ea + 1)) ∧ u.cell? ⟨w3.heap.size, 1, none⟩ = some (.slice aw3 mw3 cw3) ∧ u.cell? ⟨b, off, none⟩ = some (.int .i64 y0)) := fun u hu =>
          ⟨(ZA1.out.step hu).c.cells.1, (ZA1.out.step hu).c.cells.2, (ZX1.out.step hu).c.cells.1, (ZX1.out.step hu).c.cells.2, (hu.cell (p := ⟨b, off, none⟩) hb).trans hc0⟩
        have P0 : Below wr.heap.size wr wr.drew := (Below.refl _ _).drew
        have kw : IntKind.i64.wrap (ea + 1) = ea + 1 := by rw [IntKind.wrap_i64]; have := HW.out; unfold wrap64 at this; exact this
        have kq : (0 : Int) < (q : Int) + 1 := by omega
        have kq2 : ((q : Int) + 1 == 0) = false := beq_eq_false_iff_ne.2 (by omega)
        have kq3 : ¬ ((q : Int) + 1 = 0) := by omega
        clear hne hq hb hc0 hy0 hi' hlt
        go_wp2_with fail
        refine region_quiet (fun v => Below wr.heap.size wr v) (by kernel_rfl) (by kernel_rfl) P0 ?_
        repeat (first
          | go_big_quiet_skip
          | (go_big_quiet_want
             (first
              | (refine quiet_run (v := ?_) ?_ ?_; rotate_left; (intro u hu; obtain ⟨c0, c1, c2, c3, c4⟩ := FX.out u hu; go_simp <;> with_reducible rfl); simp only [Act.put, List.setIfInBounds_toArray, List.set_cons_zero, List.set_cons_succ]; go_big_quiet_on)
              | (refine quiet_enter 16 _ ?_ (fun u hu => (HT.out u).mono fun e u' ⟨he, hb⟩ => ⟨he, hu.trans (hb.mono hu.size)⟩) ?_; (focus (intro u; first | (go_simp; done) | (go_simp; with_reducible rfl))); simp only [Act.put, List.setIfInBounds_toArray, List.set_cons_zero, List.set_cons_succ]; go_big_quiet_on)
              | (refine quiet_enter 27 _ ?_ (fun u hu => (HII.out u hu).mono fun e u' ⟨he, hb⟩ => ⟨he, hu.trans (hb.mono hu.size)⟩) ?_; (focus (intro u; first | (go_simp; done) | (go_simp; with_reducible rfl))); simp only [Act.put, List.setIfInBounds_toArray, List.set_cons_zero, List.set_cons_succ]; go_big_quiet_on)
              | (refine quiet_enter 23 _ ?_ (fun u hu => (HHD.out u hu).mono fun e u' ⟨he, hb⟩ => ⟨he, hu.trans (hb.mono hu.size)⟩) ?_; (focus (intro u; first | (go_simp; done) | (go_simp; with_reducible rfl))); simp only [Act.put, List.setIfInBounds_toArray, List.set_cons_zero, List.set_cons_succ]; go_big_quiet_on))))
        refine wpQuiet_nil ?_
        intro w9 h9
        go_wp2
        go_returns
        exact ⟨ret_bool (by simp), below_step ZG1.out h9⟩
      · rw [List.length_nil]
        clear hi' hlt ZX1 ZI ZA1
        go_wp2_with fail
        refine (HT.out _).mono ?_
        rintro e w9 ⟨rfl, B9⟩
        have C9 := Lib.hid (below_step ZG1.out B9)
        clear B9
        go_wp2
        go_returns
        exact ⟨rfl, C9.out⟩

theorem walk (ea : Int) (va : Value) (A : List Int) (vl : Value) (l : List Int) (w : World) (hA : Ints w w.heap.size va A) (hL : Ints w w.heap.size vl l ∧ ∀ x ∈ l, Wf x) :
    Calls Try.prog 7 #[.agg #[.int .i64 ea, va], vl] w fun e w' => e = .returned (.bool true) ∧ Below w.heap.size w w' := by
  obtain ⟨aa, ca, rfl⟩ : ∃ a c, va = .slice a A.length c := by obtain ⟨a, c, h, _⟩ := hA; exact ⟨a, c, h⟩
  obtain ⟨al, cl, rfl⟩ : ∃ a c, vl = .slice a l.length c := by obtain ⟨⟨a, c, h, _⟩, _⟩ := hL; exact ⟨a, c, h⟩
  by_cases h1 : A.length ≤ 10
  · by_cases h2 : (6 : Int) < (l.length : Int)
    · exact long ea aa _ ca A al l.length cl l w hA hL.1 h1 h2
    · by_cases h3 : ChainV.may ⟨ea, A⟩
      · by_cases h4 : 1073741824 ≤ ea
        · exact top ea aa _ ca A al l.length cl l w hA hL.1 h1 h2 h3 h4
        · exact main ea aa _ ca A al l.length cl l w hA hL.1 rfl rfl h1 h2 h3 h4 (by omega) hL.2
      · exact never ea aa _ ca A al l.length cl l w hA hL.1 h1 h2 h3
  · exact many ea aa _ ca A al l.length cl l w hA hL.1 h1

set_option maxRecDepth 100000 in
theorem lifted (os : Os) (started : os.Started) (H : Type) (enc : TypeId × Value → H) :
    ReturnsInHanded {} Try.checked os 7 .any (Rows.chainWithoutSpec.pre6 enc Try.prog Try.f7 Rows.chainWithoutRow.domain false) (Rows.chainWithoutSpec.post enc Try.prog Try.f7 false true false false) := by
  refine returnsInHanded_of_change (C := Try.checked) own started (by kernel_rfl) Try.func7
    (ChangeSpec.witness6 (enc := enc) (C := Try.checked) false ⟨#[], #[.agg #[.int .i64 0, .slice none 0 0], .slice none 0 0], []⟩ 8 (by kernel_rfl) (by kernel_rfl) (by kernel_rfl) (by kernel_rfl)) ?_
  intro W base args ds gs before hval0 hW hcnd _
  have hval : ∀ (j : Nat) t v, Try.f7.params[j]? = some t → args[j]? = some v → Value.okWide Try.prog W .any base t v := hval0
  have hW' := hW
  obtain ⟨p, q, hA0, hV, rfl, hfz, hnd⟩ := hW
  have hA : DataW.TrodAll enc Try.prog W 0 (fun _ => true) true Try.f7.params.toList args.toList ds p := hA0
  rw [Try.params7] at hA hval
  obtain ⟨v0, vs0, d0, ds0, p0, q0, hargs, rfl, rfl, h0, r0⟩ := trodAll_cons hA
  obtain ⟨v1, vs1, d1, ds1, p1, q1, rfl, rfl, rfl, h1, r1⟩ := trodAll_cons r0
  obtain ⟨rfl, rfl, rfl⟩ := trodAll_nil r1
  obtain rfl : args = #[v0, v1] := by cases args; simp_all
  obtain ⟨rfl, rfl⟩ := trodVars_none hV
  have k0 := h0
  have lt0 : ∀ x ∈ p0, x.block < W.heap.size := by obtain ⟨m, hm⟩ := k0; exact DataW.trod_lt m _ _ _ hm
  obtain ⟨xa0, xb0, xc0, xd0, l0, rfl, w0⟩ := chain_open (hval 0 25 v0 rfl rfl) h0
  obtain ⟨a1, len1, cap1, rfl⟩ := okWide_slice Try.underlying22 (hval 1 22 v1 rfl rfl)
  have k1 := h1
  have lt1 : ∀ x ∈ p1, x.block < W.heap.size := by obtain ⟨m, hm⟩ := k1; exact DataW.trod_lt m _ _ _ hm
  obtain ⟨l1, w1⟩ := wints_open h1
  clear hA0 hval0
  refine (walk xa0 (.slice xb0 xc0 xd0) l0 (.slice a1 len1 cap1) l1 W w0 w1).mono fun e W' ⟨he, bel⟩ => ?_
  subst he
  exact ⟨_, rfl, _, _, _, [], _, [], hW', trodAll_mk1 (shut_bool Try.underlying4 _), (trodAll_cons_mk (Below.trod laidOut (by kernel_rfl) (of_decide_eq_true (by kernel_rfl)) k0 bel lt0) (trodAll_cons_mk (Below.trod laidOut (by kernel_rfl) (of_decide_eq_true (by kernel_rfl)) k1 bel lt1) trodAll_mk0)), rfl, bel.frame _, fun h => by cases h⟩

theorem over : Rows.chainWithoutRow.holds Try.pinned (OpenSpec.ofChange Rows.chainWithoutSpec) :=
  OpenClaim.holds_of_wide 7 Try.f7 rfl rfl rfl rfl rfl rfl rfl ⟨rfl, rfl, rfl, rfl, rfl⟩ rfl rfl rfl rfl rfl (by kernel_rfl) Try.func7 (by kernel_rfl)
    (of_decide_eq_true (by kernel_rfl)) (by unfold Func.isWrapper; first | (rw [if_pos (by decide +kernel)]; kernel_rfl) | (rw [if_neg (by decide +kernel)]; exact ⟨rfl, rfl⟩))
    (fun os started H enc _ => lifted os started H enc)
end Go.Proofs.Ytnliadnpoledmaa.ChainWithout

namespace Go.Proofs.Ytnliadnpoledmaa
theorem chainWithout_holds : Rows.ChainWithoutSaid := ChainWithout.over
#print axioms chainWithout_holds
end Go.Proofs.Ytnliadnpoledmaa
