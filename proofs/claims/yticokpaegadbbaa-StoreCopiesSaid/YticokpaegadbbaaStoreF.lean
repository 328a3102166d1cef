/-
  THE LAWS' OWN HELPERS: few, told.
-/
import Derived.Test.YticokpaegadbbaaStoreT
import Derived.Test.YticokpaegadbbaaChartArgs
namespace Go.Proofs.Yticokpaegadbbaa
open Go.RowKit

def fewR (L : List ReqV) : Prop := (∀ q ∈ L, q.data.size ≤ 100) ∧ L.length ≤ 200
instance (L : List ReqV) : Decidable (fewR L) := by unfold fewR; infer_instance

set_option maxRecDepth 100000 in
set_option maxHeartbeats 2000000 in
theorem few5_r (ao : Option Addr) (n cap : Nat) (L : List ReqV) (w : World) (hn : L.length = n) (hV : Reqs w w.heap.size (.slice ao n cap) L) (R : Bool) (HR : Hid (R = decide (fewR L))) :
    Calls Try.prog 12 #[.slice ao n cap] w fun e w' => e = .returned (.bool R) ∧ w = w' := by
  obtain ⟨ao', cap', he, hm, hs, hc⟩ := hV
  simp only [Value.slice.injEq] at he
  obtain ⟨rfl, _, rfl⟩ := he
  rw [hn] at hm
  unfold maxLen at hm
  have HC := Lib.hid hc
  have HS := Lib.hid hs
  have HN := Lib.hid hn
  clear hc hs hn
  go_enter Try.func12, Try.ntmps12
  go_wp2
  go_loop [3] (fun vi => ∃ k : Nat, k ≤ n ∧ vi = .int .i64 k ∧ Hid (∀ q ∈ L.take k, q.data.size ≤ 100)) (fun vi => n - (intOf vi).toNat)
  case atStart => exact ⟨0, by omega, rfl, by show ∀ q ∈ L.take 0, _; simp⟩
  case round =>
    obtain ⟨k, hk, rfl, HQ⟩ := hrel
    by_cases hlt : k < n
    · have hkL : k < L.length := by rw [HN.out]; exact hlt
      obtain ⟨b, off, rfl, hb, hc⟩ := HC.out (by intro e; rw [e] at hkL; simp at hkL)
      have c1 := (hc k hkL).2.2.2.2.2
      have hsz := HS.out _ (List.getElem_mem hkL)
      unfold maxLen at hsz
      have HM := Lib.hid (List.getElem_mem hkL)
      have HT : Hid (L.take (k + 1) = L.take k ++ [L[k]]) := List.take_succ_eq_append_getElem hkL
      clear hc
      generalize L[k] = q at c1 hsz HM HT
      obtain ⟨cl, sq, kd, id, mt, d⟩ := q
      simp only at c1 hsz
      clear hkL
      have i0 : (0 : Int) ≤ (k : Int) := by omega
      have i1 : (k : Int) < (n : Int) := by omega
      by_cases h100 : 100 < d.size
      · have HF : Hid (R = false) := by
          show _ = _
          rw [HR.out]
          exact decide_eq_false fun h => by have := h.1 _ HM.out; simp only at this; omega
        go_wp2
        go_returns
        exact ⟨ret_bool HF.out.symm, rfl⟩
      · have h101 : d.size ≤ 100 := by omega
        clear h100
        go_wp2
        go_round
        case rel =>
          refine ⟨k + 1, by omega, by go_num, ?_⟩
          show ∀ q ∈ L.take (k + 1), _
          rw [HT.out]
          intro q hq
          rcases List.mem_append.1 hq with hq | hq
          · exact HQ.out q hq
          · rw [List.mem_singleton.1 hq]; exact h101
        case measure => simp [intOf]; omega
    · have HF : Hid (decide (n ≤ 200) = R) := by
        show _ = _
        rw [HR.out]
        refine decide_eq_decide.2 ⟨fun h => ⟨?_, by rw [HN.out]; exact h⟩, fun h => by have := h.2; rw [HN.out] at this; exact this⟩
        have := HQ.out
        rwa [List.take_of_length_le (by rw [HN.out]; omega)] at this
      go_wp2
      go_returns
      refine ⟨ret_bool ?_, rfl⟩
      rw [← HF.out]
      first | rfl | (refine decide_eq_decide.2 ?_; omega)

/-- The law's own request, and what it makes of a new store. -/
def tq5 : ReqV := ⟨1, 3, 1, 4, 0, ⟨#[97]⟩⟩
def ts5 : StoV := putV (newV 5) 1 4 3 1 0 ⟨#[97]⟩
theorem tq1 : putA (newV 5) tq5 = ⟨ts5, 1, 1, ⟨#[]⟩, 0⟩ := by rfl
theorem tq2 : putA ts5 tq5 = ⟨ts5, 0, 0, ⟨#[]⟩, 9⟩ := by rfl
theorem ts_fit : Fit ts5 1 := by have h := (Fit.new 5 (by decide) (by decide)).put tq5; rw [tq1] at h; exact h

set_option maxRecDepth 100000 in
set_option maxHeartbeats 4000000 in
theorem told5_any (w : World) : Calls Try.prog 11 #[] w fun e w' => e = .returned (.bool true) ∧ Below w.heap.size w w' := by
  have H1 := Lib.hid (fun u => snew_r 5 (by decide) (by decide) u)
  have H2 : Hid (∀ b u, Sto layP u b (newV 5) → Calls Try.prog 14 #[.pointer (some ⟨b, 0, none⟩), .agg #[.int .i64 1, .int .i64 3, .int .i64 1, .int .i64 4, .int .i64 0, .string ⟨#[97]⟩]] u (PutR layP b ts5 1 1 ⟨#[]⟩ 0 u)) :=
    fun b u h => sput_r b (newV 5) ts5 0 1 3 1 4 0 ⟨#[97]⟩ 1 1 ⟨#[]⟩ 0 (show _ = _ from tq1) (by decide) (Fit.new 5 (by decide) (by decide)) (by decide) u h
  have H3 : Hid (∀ b u, Sto layP u b ts5 → Calls Try.prog 14 #[.pointer (some ⟨b, 0, none⟩), .agg #[.int .i64 1, .int .i64 3, .int .i64 1, .int .i64 4, .int .i64 0, .string ⟨#[97]⟩]] u (PutR layP b ts5 0 0 ⟨#[]⟩ 9 u)) :=
    fun b u h => sput_r b ts5 ts5 1 1 3 1 4 0 ⟨#[97]⟩ 0 0 ⟨#[]⟩ 9 (show _ = _ from tq2) (by decide) ts_fit (by decide) u h
  have H4 : Hid (∀ b u, Sto layP u b ts5 → Calls Try.prog 23 #[.pointer (some ⟨b, 0, none⟩), .int .i64 1] u (LastTold ⟨3, 1, 1, ⟨#[]⟩, 1⟩ u)) := fun b u h => slast_r b 1 ts5 u h
  have H5 := Lib.hid (fun u => snew_bad 0 (by decide) u)
  have H6 : Hid (∀ b u, Sto layP u b ts5 → Calls Try.prog 21 #[.pointer (some ⟨b, 0, none⟩)] u fun e w' => e = .returned (.int .i64 1) ∧ u = w') := fun b u h => slen_r b ts5 u h
  have H7 : Hid (∀ b u, Sto layP u b ts5 → Calls Try.prog 22 #[.pointer (some ⟨b, 0, none⟩), .int .i64 1] u fun e w' => e = .returned (.int .i64 3) ∧ Below u.heap.size u w') := fun b u h => sseq_r b 1 ts5 u h
  have H8 : Hid (∀ b u, Sto layP u b ts5 → Calls Try.prog 27 #[.pointer (some ⟨b, 0, none⟩)] u fun e w' => (∃ ao cap, e = .returned (.slice ao 1 cap)) ∧ Below u.heap.size u w') :=
    fun b u h => (sids_r b ts5 u h (fun k hk => by have := (ts_fit.res k hk).1; omega)).mono fun e w' ⟨v, he, ho, hb⟩ => ⟨by obtain ⟨a, c, rfl⟩ := own_shape ho; exact ⟨a, c, he⟩, hb⟩
  have H9 : Hid (∀ b u, Sto layP u b ts5 → Calls Try.prog 26 #[.pointer (some ⟨b, 0, none⟩), .int .i64 4] u fun e w' => (∃ ao cap, e = .returned (.slice ao 1 cap)) ∧ Below u.heap.size u w') :=
    fun b u h => (sversions_r b 4 ts5 u h (by decide)).mono fun e w' ⟨v, he, ho, hb⟩ => ⟨by obtain ⟨a, c, rfl⟩ := own_shape ho; exact ⟨a, c, he⟩, hb⟩
  go_enter Try.func11, Try.ntmps11
  go_wp2_with fail
  refine (H1.out _).mono ?_
  rintro e w1 ⟨rfl, S1, z1, B1⟩
  have C1 := Lib.hid B1
  have T1 := Lib.hid (S1.alloc (.cells #[.int .i64 1, .int .i64 3, .int .i64 1, .int .i64 4, .int .i64 0, .string ⟨#[97]⟩] 40))
  have Z1 := Lib.hid z1
  clear S1 z1 B1
  go_wp2_with fail
  refine (H2.out _ _ T1.out).mono ?_
  rintro e w2 ⟨a2, p2, rfl, n2, B2, S2⟩
  have lt1 : w.heap.size < w1.heap.size := by rw [Z1.out]; omega
  have C2 : Hid (Below w.heap.size w w2) := B2.below (C1.out.alloc C1.out.size _) (Nat.le_refl _) (by have := C1.out.size; simp; omega)
  have D2 : ReqB w2 w1.heap.size 1 3 1 4 0 ⟨#[97]⟩ := (ReqB.fresh w1 1 3 1 4 0 ⟨#[97]⟩ 40).besides B2 (by omega)
  have sz2 : w1.heap.size < w2.heap.size := D2.lt
  have al2 : Below w2.heap.size w2 (w2.alloc (.cells #[.int .i64 1, .int .i64 1, .string ⟨#[]⟩, .slice a2 0 p2] 34)) := (Below.refl _ _).alloc (Nat.le_refl _) _
  have T2 := Lib.hid (S2.on al2)
  have E2 := Lib.hid (D2.keep al2 sz2)
  have F2 := Lib.hid (C2.out.trans (al2.mono C2.out.size))
  have lt2 : w.heap.size < w2.heap.size := by omega
  have Lt2 := Lib.hid lt2
  have Sz2 := Lib.hid sz2
  have Lt1 := Lib.hid lt1
  obtain ⟨d0, d1, d2, d3, d4, d5⟩ := E2.out.cells
  clear n2 B2 S2 D2 sz2 al2 T1 C1 lt2 lt1 C2 Z1
  go_wp2_with fail
  refine (H3.out _ _ T2.out).mono ?_
  rintro e w3 ⟨a3, p3, rfl, n3, B3, S3⟩
  have A3 : RepAt w3 w2.heap.size 1 1 ⟨#[]⟩ (.slice a2 0 p2) := (RepAt.new w2 1 1 ⟨#[]⟩ (.slice a2 0 p2)).besides B3 (by have := Lt2.out; omega)
  have lt3 : w2.heap.size < w3.heap.size := A3.lt
  have C3 : Below w.heap.size w w3 := B3.below F2.out (Nat.le_refl _) F2.out.size
  have al3 : Below w3.heap.size w3 (w3.alloc (.cells #[.int .i64 0, .int .i64 0, .string ⟨#[]⟩, .slice a3 0 p3] 34)) := (Below.refl _ _).alloc (Nat.le_refl _) _
  have T3 := Lib.hid (S3.on al3)
  have A3' := Lib.hid (A3.keep al3 lt3)
  have F3 := Lib.hid (C3.trans (al3.mono C3.size))
  clear n3 B3 S3 A3 lt3 C3 al3 T2 E2 F2 d0 d1 d2 d3 d4 d5
  go_wp2_with fail
  refine (H4.out _ _ T3.out).mono ?_
  rintro e w4 ⟨a4, p4, rfl, n4, B4⟩
  have al4 : Below w4.heap.size w4 (w4.alloc (.cells #[.int .i64 1, .int .i64 1, .string ⟨#[]⟩, .slice a4 0 p4] 34)) := (Below.refl _ _).alloc (Nat.le_refl _) _
  have S4 := T3.out.on B4
  have T4 := Lib.hid (S4.on al4)
  have A4 := A3'.out.keep B4 A3'.out.lt
  have A4' := Lib.hid (A4.keep al4 A4.lt)
  have R4 := Lib.hid (RepAt.new w4 1 1 ⟨#[]⟩ (.slice a4 0 p4))
  have C4 : Below w.heap.size w w4 := F3.out.trans (B4.mono F3.out.size)
  have F4 := Lib.hid (C4.trans (al4.mono C4.size))
  clear n4 B4 al4 S4 A4 C4 T3 A3' F3
  go_wp2_with fail
  refine (H5.out _).mono ?_
  rintro e w5 ⟨rfl, rfl⟩
  obtain ⟨⟨x0, x1, x2, x3⟩, _⟩ := A4'.out.cells
  obtain ⟨⟨y0, y1, y2, y3⟩, _⟩ := R4.out.cells
  go_wp2_with fail
  refine (H6.out _ _ T4.out).mono ?_
  rintro e w5 ⟨rfl, rfl⟩
  go_wp2_with fail
  refine (H7.out _ _ T4.out).mono ?_
  rintro e w5 ⟨rfl, B5⟩
  have T5 := Lib.hid (T4.out.on B5)
  have F5 := Lib.hid (F4.out.trans (B5.mono F4.out.size))
  clear B5 T4 F4 x0 x1 x2 x3 y0 y1 y2 y3
  go_wp2_with fail
  refine (H8.out _ _ T5.out).mono ?_
  rintro e w6 ⟨⟨a6, p6, rfl⟩, B6⟩
  have T6 := Lib.hid (T5.out.on B6)
  have F6 := Lib.hid (F5.out.trans (B6.mono F5.out.size))
  clear B6 T5 F5
  go_wp2_with fail
  refine (H9.out _ _ T6.out).mono ?_
  rintro e w7 ⟨⟨a7, p7, rfl⟩, B7⟩
  have F7 := Lib.hid (F6.out.trans (B7.mono F6.out.size))
  clear B7 T6 F6
  go_wp2
  go_returns
  exact ⟨rfl, F7.out⟩
end Go.Proofs.Yticokpaegadbbaa
