/-
  Requests and replies that are alike, their keys, and which are newer, is what the document says (3.1), as ReqSame says: for any two requests, any two replies, any number. No condition.
-/
import Derived.Test.YtjgeopdcniameaaReqT
import Derived.Test.YtjgeopdcniameaaRegion
namespace Go.Proofs.Ytjgeopdcniameaa.ReqSame
open Go.ChangeShapes Go.WideShapes Go.ChangeAt Go.RowKit

/-- The blocks of the two requests and the two replies stand; nothing below has turned. -/
structure PS (w v : World) (a1 a2 a3 a4 a5 : Int) (a6 : ByteArray) (b1 b2 b3 b4 b5 : Int) (b6 : ByteArray) (r1 r2 : Int) (r3 : ByteArray) (ra : Option Addr) (rn rc : Nat) (s1 s2 : Int) (s3 : ByteArray) (sa : Option Addr) (sn sc : Nat) : Prop where
  a : ReqB v w.heap.size a1 a2 a3 a4 a5 a6
  b : ReqB v (w.heap.size + 1) b1 b2 b3 b4 b5 b6
  r : RepB v (w.heap.size + 2) r1 r2 r3 (.slice ra rn rc)
  s : RepB v (w.heap.size + 3) s1 s2 s3 (.slice sa sn sc)
  bel : Below w.heap.size w v
theorem PS.step {w u v : World} {a1 a2 a3 a4 a5 : Int} {a6 : ByteArray} {b1 b2 b3 b4 b5 : Int} {b6 : ByteArray} {r1 r2 : Int} {r3 : ByteArray} {ra : Option Addr} {rn rc : Nat} {s1 s2 : Int} {s3 : ByteArray} {sa : Option Addr} {sn sc : Nat} (h : PS w u a1 a2 a3 a4 a5 a6 b1 b2 b3 b4 b5 b6 r1 r2 r3 ra rn rc s1 s2 s3 sa sn sc) (hb : Below u.heap.size u v) : PS w v a1 a2 a3 a4 a5 a6 b1 b2 b3 b4 b5 b6 r1 r2 r3 ra rn rc s1 s2 s3 sa sn sc :=
  ⟨h.a.keep hb h.a.lt, h.b.keep hb h.b.lt, h.r.keep hb h.r.lt, h.s.keep hb h.s.lt, h.bel.trans (hb.mono h.bel.size)⟩
theorem PS.drew {w u : World} {a1 a2 a3 a4 a5 : Int} {a6 : ByteArray} {b1 b2 b3 b4 b5 : Int} {b6 : ByteArray} {r1 r2 : Int} {r3 : ByteArray} {ra : Option Addr} {rn rc : Nat} {s1 s2 : Int} {s3 : ByteArray} {sa : Option Addr} {sn sc : Nat} (h : PS w u a1 a2 a3 a4 a5 a6 b1 b2 b3 b4 b5 b6 r1 r2 r3 ra rn rc s1 s2 s3 sa sn sc) : PS w u.drew a1 a2 a3 a4 a5 a6 b1 b2 b3 b4 b5 b6 r1 r2 r3 ra rn rc s1 s2 s3 sa sn sc := ⟨h.a, h.b, h.r, h.s, h.bel.drew⟩
theorem PS.start (w : World) (a1 a2 a3 a4 a5 : Int) (a6 : ByteArray) (b1 b2 b3 b4 b5 : Int) (b6 : ByteArray) (r1 r2 : Int) (r3 : ByteArray) (ra : Option Addr) (rn rc : Nat) (s1 s2 : Int) (s3 : ByteArray) (sa : Option Addr) (sn sc : Nat) : PS w ((((w.alloc (.cells #[.int .i64 a1, .int .i64 a2, .int .i64 a3, .int .i64 a4, .int .i64 a5, .string a6] 23)).alloc (.cells #[.int .i64 b1, .int .i64 b2, .int .i64 b3, .int .i64 b4, .int .i64 b5, .string b6] 23)).alloc (.cells #[.int .i64 r1, .int .i64 r2, .string r3, .slice ra rn rc] 26)).alloc (.cells #[.int .i64 s1, .int .i64 s2, .string s3, .slice sa sn sc] 26)) a1 a2 a3 a4 a5 a6 b1 b2 b3 b4 b5 b6 r1 r2 r3 ra rn rc s1 s2 s3 sa sn sc := by
  obtain ⟨u1, h1⟩ : ∃ u, u = w.alloc (.cells #[.int .i64 a1, .int .i64 a2, .int .i64 a3, .int .i64 a4, .int .i64 a5, .string a6] 23) := ⟨_, rfl⟩
  have A := ReqB.fresh w a1 a2 a3 a4 a5 a6 23
  rw [← h1] at A ⊢
  have z1 : u1.heap.size = w.heap.size + 1 := by rw [h1]; simp
  have L1 : Below w.heap.size w u1 := by rw [h1]; exact (Below.refl _ w).alloc (Nat.le_refl _) _
  clear h1
  obtain ⟨u2, h2⟩ : ∃ u, u = u1.alloc (.cells #[.int .i64 b1, .int .i64 b2, .int .i64 b3, .int .i64 b4, .int .i64 b5, .string b6] 23) := ⟨_, rfl⟩
  have B := ReqB.fresh u1 b1 b2 b3 b4 b5 b6 23
  rw [← h2] at B ⊢
  have z2 : u2.heap.size = w.heap.size + 2 := by rw [h2]; simp; omega
  have L2 : Below u1.heap.size u1 u2 := by rw [h2]; exact (Below.refl _ _).alloc (Nat.le_refl _) _
  clear h2
  obtain ⟨u3, h3⟩ : ∃ u, u = u2.alloc (.cells #[.int .i64 r1, .int .i64 r2, .string r3, .slice ra rn rc] 26) := ⟨_, rfl⟩
  have R := RepB.fresh u2 r1 r2 r3 (.slice ra rn rc) 26
  rw [← h3] at R ⊢
  have z3 : u3.heap.size = w.heap.size + 3 := by rw [h3]; simp; omega
  have L3 : Below u2.heap.size u2 u3 := by rw [h3]; exact (Below.refl _ _).alloc (Nat.le_refl _) _
  clear h3
  have S := RepB.fresh u3 s1 s2 s3 (.slice sa sn sc) 26
  have L4 : Below u3.heap.size u3 (u3.alloc (.cells #[.int .i64 s1, .int .i64 s2, .string s3, .slice sa sn sc] 26)) := (Below.refl _ _).alloc (Nat.le_refl _) _
  rw [z1] at B
  rw [z2] at R
  rw [z3] at S
  exact ⟨((A.keep L2 A.lt).keep L3 (by omega)).keep L4 (by omega), (B.keep L3 B.lt).keep L4 (by omega), R.keep L4 R.lt, S, ((L1.trans (L2.mono (by omega))).trans (L3.mono (by omega))).trans (L4.mono (by omega))⟩

set_option maxHeartbeats 1000000 in
set_option maxRecDepth 100000 in
theorem many0 (a1 a2 a3 a4 a5 : Int) (a6 : ByteArray) (b1 b2 b3 b4 b5 : Int) (b6 : ByteArray) (r1 r2 : Int) (r3 : ByteArray) (ra : Option Addr) (rn rc : Nat) (s1 s2 : Int) (s3 : ByteArray) (sa : Option Addr) (sn sc : Nat) (n : Int) (w : World)  (g0 : 120 < rn) :
    Calls Try.prog 3 #[.agg #[.int .i64 a1, .int .i64 a2, .int .i64 a3, .int .i64 a4, .int .i64 a5, .string a6], .agg #[.int .i64 b1, .int .i64 b2, .int .i64 b3, .int .i64 b4, .int .i64 b5, .string b6], .agg #[.int .i64 r1, .int .i64 r2, .string r3, .slice ra rn rc], .agg #[.int .i64 s1, .int .i64 s2, .string s3, .slice sa sn sc], .int .i64 n] w fun e w' => e = .returned (.bool true) ∧ Below w.heap.size w w' := by
  have HT := Lib.hid (fun u => told3_any u)
  go_enter Try.func3, Try.ntmps3
  go_wp2_with fail
  refine (HT.out _).mono ?_
  rintro e w1 ⟨rfl, B1⟩
  have C1 : Hid (Below w.heap.size w w1) := (PS.start w a1 a2 a3 a4 a5 a6 b1 b2 b3 b4 b5 b6 r1 r2 r3 ra rn rc s1 s2 s3 sa sn sc).bel.trans (B1.mono (PS.start w a1 a2 a3 a4 a5 a6 b1 b2 b3 b4 b5 b6 r1 r2 r3 ra rn rc s1 s2 s3 sa sn sc).bel.size)
  clear B1
  go_wp2
  go_returns
  exact ⟨rfl, C1.out⟩

set_option maxHeartbeats 1000000 in
set_option maxRecDepth 100000 in
theorem many1 (a1 a2 a3 a4 a5 : Int) (a6 : ByteArray) (b1 b2 b3 b4 b5 : Int) (b6 : ByteArray) (r1 r2 : Int) (r3 : ByteArray) (ra : Option Addr) (rn rc : Nat) (s1 s2 : Int) (s3 : ByteArray) (sa : Option Addr) (sn sc : Nat) (n : Int) (w : World) (g0 : rn ≤ 120) (g1 : 120 < sn) :
    Calls Try.prog 3 #[.agg #[.int .i64 a1, .int .i64 a2, .int .i64 a3, .int .i64 a4, .int .i64 a5, .string a6], .agg #[.int .i64 b1, .int .i64 b2, .int .i64 b3, .int .i64 b4, .int .i64 b5, .string b6], .agg #[.int .i64 r1, .int .i64 r2, .string r3, .slice ra rn rc], .agg #[.int .i64 s1, .int .i64 s2, .string s3, .slice sa sn sc], .int .i64 n] w fun e w' => e = .returned (.bool true) ∧ Below w.heap.size w w' := by
  have HT := Lib.hid (fun u => told3_any u)
  go_enter Try.func3, Try.ntmps3
  go_wp2_with fail
  refine (HT.out _).mono ?_
  rintro e w1 ⟨rfl, B1⟩
  have C1 : Hid (Below w.heap.size w w1) := (PS.start w a1 a2 a3 a4 a5 a6 b1 b2 b3 b4 b5 b6 r1 r2 r3 ra rn rc s1 s2 s3 sa sn sc).bel.trans (B1.mono (PS.start w a1 a2 a3 a4 a5 a6 b1 b2 b3 b4 b5 b6 r1 r2 r3 ra rn rc s1 s2 s3 sa sn sc).bel.size)
  clear B1
  go_wp2
  go_returns
  exact ⟨rfl, C1.out⟩

set_option maxHeartbeats 1000000 in
set_option maxRecDepth 100000 in
theorem many2 (a1 a2 a3 a4 a5 : Int) (a6 : ByteArray) (b1 b2 b3 b4 b5 : Int) (b6 : ByteArray) (r1 r2 : Int) (r3 : ByteArray) (ra : Option Addr) (rn rc : Nat) (s1 s2 : Int) (s3 : ByteArray) (sa : Option Addr) (sn sc : Nat) (n : Int) (w : World) (g0 : rn ≤ 120) (g1 : sn ≤ 120) (g2 : 300 < a6.size) :
    Calls Try.prog 3 #[.agg #[.int .i64 a1, .int .i64 a2, .int .i64 a3, .int .i64 a4, .int .i64 a5, .string a6], .agg #[.int .i64 b1, .int .i64 b2, .int .i64 b3, .int .i64 b4, .int .i64 b5, .string b6], .agg #[.int .i64 r1, .int .i64 r2, .string r3, .slice ra rn rc], .agg #[.int .i64 s1, .int .i64 s2, .string s3, .slice sa sn sc], .int .i64 n] w fun e w' => e = .returned (.bool true) ∧ Below w.heap.size w w' := by
  have HT := Lib.hid (fun u => told3_any u)
  go_enter Try.func3, Try.ntmps3
  go_wp2_with fail
  refine (HT.out _).mono ?_
  rintro e w1 ⟨rfl, B1⟩
  have C1 : Hid (Below w.heap.size w w1) := (PS.start w a1 a2 a3 a4 a5 a6 b1 b2 b3 b4 b5 b6 r1 r2 r3 ra rn rc s1 s2 s3 sa sn sc).bel.trans (B1.mono (PS.start w a1 a2 a3 a4 a5 a6 b1 b2 b3 b4 b5 b6 r1 r2 r3 ra rn rc s1 s2 s3 sa sn sc).bel.size)
  clear B1
  go_wp2
  go_returns
  exact ⟨rfl, C1.out⟩

set_option maxHeartbeats 1000000 in
set_option maxRecDepth 100000 in
theorem many3 (a1 a2 a3 a4 a5 : Int) (a6 : ByteArray) (b1 b2 b3 b4 b5 : Int) (b6 : ByteArray) (r1 r2 : Int) (r3 : ByteArray) (ra : Option Addr) (rn rc : Nat) (s1 s2 : Int) (s3 : ByteArray) (sa : Option Addr) (sn sc : Nat) (n : Int) (w : World) (g0 : rn ≤ 120) (g1 : sn ≤ 120) (g2 : a6.size ≤ 300) (g3 : 300 < b6.size) :
    Calls Try.prog 3 #[.agg #[.int .i64 a1, .int .i64 a2, .int .i64 a3, .int .i64 a4, .int .i64 a5, .string a6], .agg #[.int .i64 b1, .int .i64 b2, .int .i64 b3, .int .i64 b4, .int .i64 b5, .string b6], .agg #[.int .i64 r1, .int .i64 r2, .string r3, .slice ra rn rc], .agg #[.int .i64 s1, .int .i64 s2, .string s3, .slice sa sn sc], .int .i64 n] w fun e w' => e = .returned (.bool true) ∧ Below w.heap.size w w' := by
  have HT := Lib.hid (fun u => told3_any u)
  go_enter Try.func3, Try.ntmps3
  go_wp2_with fail
  refine (HT.out _).mono ?_
  rintro e w1 ⟨rfl, B1⟩
  have C1 : Hid (Below w.heap.size w w1) := (PS.start w a1 a2 a3 a4 a5 a6 b1 b2 b3 b4 b5 b6 r1 r2 r3 ra rn rc s1 s2 s3 sa sn sc).bel.trans (B1.mono (PS.start w a1 a2 a3 a4 a5 a6 b1 b2 b3 b4 b5 b6 r1 r2 r3 ra rn rc s1 s2 s3 sa sn sc).bel.size)
  clear B1
  go_wp2
  go_returns
  exact ⟨rfl, C1.out⟩

set_option maxHeartbeats 1000000 in
set_option maxRecDepth 100000 in
theorem yes (a1 a2 a3 a4 a5 : Int) (a6 : ByteArray) (b1 b2 b3 b4 b5 : Int) (b6 : ByteArray) (r1 r2 : Int) (r3 : ByteArray) (ra : Option Addr) (rn rc : Nat) (s1 s2 : Int) (s3 : ByteArray) (sa : Option Addr) (sn sc : Nat) (n : Int) (w : World) (g0 : rn ≤ 120) (g1 : sn ≤ 120) (g2 : a6.size ≤ 300) (g3 : b6.size ≤ 300)
    (Q : Bool) (SR : Bool)
    (HM : Hid (∀ u, Calls Try.prog 7 #[.agg #[.int .i64 a1, .int .i64 a2, .int .i64 a3, .int .i64 a4, .int .i64 a5, .string a6]] u fun e w' => e = .returned (.bool true) ∧ Below u.heap.size u w'))
    (HS : Hid (∀ u, Calls Try.prog 8 #[.agg #[.int .i64 a1, .int .i64 a2, .int .i64 a3, .int .i64 a4, .int .i64 a5, .string a6], .agg #[.int .i64 b1, .int .i64 b2, .int .i64 b3, .int .i64 b4, .int .i64 b5, .string b6]] u fun e w' => e = .returned (.bool Q) ∧ Below u.heap.size u w'))
    (HE : Hid (∀ u, (binOp .eql 23 (.agg #[.int .i64 a1, .int .i64 a2, .int .i64 a3, .int .i64 a4, .int .i64 a5, .string a6]) (.agg #[.int .i64 b1, .int .i64 b2, .int .i64 b3, .int .i64 b4, .int .i64 b5, .string b6])).run Try.prog u = .ok (.bool Q) u))
    (HI : Hid (∀ u, Calls Try.prog 8 #[.agg #[.int .i64 a1, .int .i64 a2, .int .i64 a3, .int .i64 a4, .int .i64 a5, .string a6], .agg #[.int .i64 a1, .int .i64 a2, .int .i64 a3, .int .i64 a4, .int .i64 a5, .string a6]] u fun e w' => e = .returned (.bool true) ∧ Below u.heap.size u w'))
    (HP : Hid (∀ u, Below w.heap.size w u → Calls Try.prog 9 #[.agg #[.int .i64 r1, .int .i64 r2, .string r3, .slice ra rn rc], .agg #[.int .i64 s1, .int .i64 s2, .string s3, .slice sa sn sc]] u fun e w' => e = .returned (.bool SR) ∧ Below u.heap.size u w'))
    (HQ : Hid (∀ u, Below w.heap.size w u → Calls Try.prog 10 #[.agg #[.int .i64 r1, .int .i64 r2, .string r3, .slice ra rn rc], .agg #[.int .i64 s1, .int .i64 s2, .string s3, .slice sa sn sc]] u fun e w' => e = .returned (.bool SR) ∧ Below u.heap.size u w'))
    (HR : Hid (∀ u, Below w.heap.size w u → Calls Try.prog 9 #[.agg #[.int .i64 r1, .int .i64 r2, .string r3, .slice ra rn rc], .agg #[.int .i64 r1, .int .i64 r2, .string r3, .slice ra rn rc]] u fun e w' => e = .returned (.bool true) ∧ Below u.heap.size u w'))
    (HK : Hid (∀ u, Calls Try.prog 11 #[.agg #[.int .i64 a1, .int .i64 a2, .int .i64 a3, .int .i64 a4, .int .i64 a5, .string a6]] u fun e w' => e = .returned (.int .i64 a4) ∧ Below u.heap.size u w'))
    (HN : Hid (∀ u, Calls Try.prog 12 #[.agg #[.int .i64 a1, .int .i64 a2, .int .i64 a3, .int .i64 a4, .int .i64 a5, .string a6], .int .i64 n] u fun e w' => e = .returned (.bool (decide (n < a2))) ∧ Below u.heap.size u w')) :
    Calls Try.prog 3 #[.agg #[.int .i64 a1, .int .i64 a2, .int .i64 a3, .int .i64 a4, .int .i64 a5, .string a6], .agg #[.int .i64 b1, .int .i64 b2, .int .i64 b3, .int .i64 b4, .int .i64 b5, .string b6], .agg #[.int .i64 r1, .int .i64 r2, .string r3, .slice ra rn rc], .agg #[.int .i64 s1, .int .i64 s2, .string s3, .slice sa sn sc], .int .i64 n] w fun e w' => e = .returned (.bool true) ∧ Below w.heap.size w w' := by
  have HT := Lib.hid (fun u => told3_any u)
  go_enter Try.func3, Try.ntmps3
  go_wp2_with fail
  refine (HM.out _).mono ?_
  rintro e w1 ⟨rfl, B1⟩
  have P1 : Hid (PS w w1 a1 a2 a3 a4 a5 a6 b1 b2 b3 b4 b5 b6 r1 r2 r3 ra rn rc s1 s2 s3 sa sn sc) := (PS.start w a1 a2 a3 a4 a5 a6 b1 b2 b3 b4 b5 b6 r1 r2 r3 ra rn rc s1 s2 s3 sa sn sc).step B1
  clear B1
  obtain ⟨c0, c1, c2, c3, c4, c5⟩ := P1.out.a.cells
  go_wp2_with fail
  clear c0 c1 c2 c3 c4 c5
  have FX : Hid (∀ u, PS w u a1 a2 a3 a4 a5 a6 b1 b2 b3 b4 b5 b6 r1 r2 r3 ra rn rc s1 s2 s3 sa sn sc → u.cell? ⟨w.heap.size, 0, none⟩ = some (.int .i64 a1) ∧ u.cell? ⟨w.heap.size, 1, none⟩ = some (.int .i64 a2) ∧ u.cell? ⟨w.heap.size, 2, none⟩ = some (.int .i64 a3) ∧ u.cell? ⟨w.heap.size, 3, none⟩ = some (.int .i64 a4) ∧ u.cell? ⟨w.heap.size, 4, none⟩ = some (.int .i64 a5) ∧ u.cell? ⟨w.heap.size, 5, none⟩ = some (.string a6) ∧ u.cell? ⟨w.heap.size + 1, 0, none⟩ = some (.int .i64 b1) ∧ u.cell? ⟨w.heap.size + 1, 1, none⟩ = some (.int .i64 b2) ∧ u.cell? ⟨w.heap.size + 1, 2, none⟩ = some (.int .i64 b3) ∧ u.cell? ⟨w.heap.size + 1, 3, none⟩ = some (.int .i64 b4) ∧ u.cell? ⟨w.heap.size + 1, 4, none⟩ = some (.int .i64 b5) ∧ u.cell? ⟨w.heap.size + 1, 5, none⟩ = some (.string b6) ∧ u.cell? ⟨w.heap.size + 2, 0, none⟩ = some (.int .i64 r1) ∧ u.cell? ⟨w.heap.size + 2, 1, none⟩ = some (.int .i64 r2) ∧ u.cell? ⟨w.heap.size + 2, 2, none⟩ = some (.string r3) ∧ u.cell? ⟨w.heap.size + 2, 3, none⟩ = some (.slice ra rn rc) ∧ u.cell? ⟨w.heap.size + 3, 0, none⟩ = some (.int .i64 s1) ∧ u.cell? ⟨w.heap.size + 3, 1, none⟩ = some (.int .i64 s2) ∧ u.cell? ⟨w.heap.size + 3, 2, none⟩ = some (.string s3) ∧ u.cell? ⟨w.heap.size + 3, 3, none⟩ = some (.slice sa sn sc)) := fun u hu =>
    ⟨hu.a.cells.1, hu.a.cells.2.1, hu.a.cells.2.2.1, hu.a.cells.2.2.2.1, hu.a.cells.2.2.2.2.1, hu.a.cells.2.2.2.2.2, hu.b.cells.1, hu.b.cells.2.1, hu.b.cells.2.2.1, hu.b.cells.2.2.2.1, hu.b.cells.2.2.2.2.1, hu.b.cells.2.2.2.2.2,
     hu.r.cells.1, hu.r.cells.2.1, hu.r.cells.2.2.1, hu.r.cells.2.2.2, hu.s.cells.1, hu.s.cells.2.1, hu.s.cells.2.2.1, hu.s.cells.2.2.2⟩
  refine region_quiet (fun v => PS w v a1 a2 a3 a4 a5 a6 b1 b2 b3 b4 b5 b6 r1 r2 r3 ra rn rc s1 s2 s3 sa sn sc) (by kernel_rfl) (by kernel_rfl) P1.out.drew ?_
  repeat (first
    | go_big_quiet_skip
    | (go_big_quiet_want
       (first
        | (refine quiet_run (v := ?_) ?_ ?_; rotate_left; (intro u hu; obtain ⟨c0, c1, c2, c3, c4, c5, d0, d1, d2, d3, d4, d5, e0, e1, e2, e3, f0, f1, f2, f3⟩ := FX.out u hu; go_simp <;> with_reducible rfl); simp only [Act.put, List.setIfInBounds_toArray, List.set_cons_zero, List.set_cons_succ]; go_big_quiet_on)
        | (refine quiet_enter 6 _ ?_ (fun u hu => (HT.out u).mono fun e u' ⟨he, hb⟩ => ⟨he, hu.step hb⟩) ?_; (focus (intro u; first | (go_simp; done) | (go_simp; with_reducible rfl))); simp only [Act.put, List.setIfInBounds_toArray, List.set_cons_zero, List.set_cons_succ]; go_big_quiet_on)
        | (refine quiet_enter 8 _ ?_ (fun u hu => (HS.out u).mono fun e u' ⟨he, hb⟩ => ⟨he, hu.step hb⟩) ?_; (focus (intro u; first | (go_simp; done) | (go_simp; with_reducible rfl))); simp only [Act.put, List.setIfInBounds_toArray, List.set_cons_zero, List.set_cons_succ]; go_big_quiet_on)
        | (refine quiet_enter 8 _ ?_ (fun u hu => (HI.out u).mono fun e u' ⟨he, hb⟩ => ⟨he, hu.step hb⟩) ?_; (focus (intro u; first | (go_simp; done) | (go_simp; with_reducible rfl))); simp only [Act.put, List.setIfInBounds_toArray, List.set_cons_zero, List.set_cons_succ]; go_big_quiet_on)
        | (refine quiet_enter 9 _ ?_ (fun u hu => (HP.out u hu.bel).mono fun e u' ⟨he, hb⟩ => ⟨he, hu.step hb⟩) ?_; (focus (intro u; first | (go_simp; done) | (go_simp; with_reducible rfl))); simp only [Act.put, List.setIfInBounds_toArray, List.set_cons_zero, List.set_cons_succ]; go_big_quiet_on)
        | (refine quiet_enter 10 _ ?_ (fun u hu => (HQ.out u hu.bel).mono fun e u' ⟨he, hb⟩ => ⟨he, hu.step hb⟩) ?_; (focus (intro u; first | (go_simp; done) | (go_simp; with_reducible rfl))); simp only [Act.put, List.setIfInBounds_toArray, List.set_cons_zero, List.set_cons_succ]; go_big_quiet_on)
        | (refine quiet_enter 9 _ ?_ (fun u hu => (HR.out u hu.bel).mono fun e u' ⟨he, hb⟩ => ⟨he, hu.step hb⟩) ?_; (focus (intro u; first | (go_simp; done) | (go_simp; with_reducible rfl))); simp only [Act.put, List.setIfInBounds_toArray, List.set_cons_zero, List.set_cons_succ]; go_big_quiet_on)
        | (refine quiet_enter 11 _ ?_ (fun u hu => (HK.out u).mono fun e u' ⟨he, hb⟩ => ⟨he, hu.step hb⟩) ?_; (focus (intro u; first | (go_simp; done) | (go_simp; with_reducible rfl))); simp only [Act.put, List.setIfInBounds_toArray, List.set_cons_zero, List.set_cons_succ]; go_big_quiet_on)
        | (refine quiet_enter 12 _ ?_ (fun u hu => (HN.out u).mono fun e u' ⟨he, hb⟩ => ⟨he, hu.step hb⟩) ?_; (focus (intro u; first | (go_simp; done) | (go_simp; with_reducible rfl))); simp only [Act.put, List.setIfInBounds_toArray, List.set_cons_zero, List.set_cons_succ]; go_big_quiet_on)
        | (refine quiet_run (v := .bool Q) (fun u _ => exec_eq_agg _ _ (by kernel_rfl) rfl rfl rfl (HE.out u)) ?_; simp only [Act.put, List.setIfInBounds_toArray, List.set_cons_zero, List.set_cons_succ]; go_big_quiet_on))))
  refine wpQuiet_nil ?_
  intro w4 h4
  have C4 : Hid (Below w.heap.size w w4) := h4.bel
  clear P1 FX h4
  go_wp2
  go_returns
  exact ⟨rfl, C4.out⟩

set_option maxHeartbeats 1000000 in
set_option maxRecDepth 100000 in
theorem no (a1 a2 a3 a4 a5 : Int) (a6 : ByteArray) (b1 b2 b3 b4 b5 : Int) (b6 : ByteArray) (r1 r2 : Int) (r3 : ByteArray) (ra : Option Addr) (rn rc : Nat) (s1 s2 : Int) (s3 : ByteArray) (sa : Option Addr) (sn sc : Nat) (n : Int) (w : World) (g0 : rn ≤ 120) (g1 : sn ≤ 120) (g2 : a6.size ≤ 300) (g3 : b6.size ≤ 300)
    (Q : Bool) (SR : Bool)
    (HM : Hid (∀ u, Calls Try.prog 7 #[.agg #[.int .i64 a1, .int .i64 a2, .int .i64 a3, .int .i64 a4, .int .i64 a5, .string a6]] u fun e w' => e = .returned (.bool false) ∧ Below u.heap.size u w'))
    (HS : Hid (∀ u, Calls Try.prog 8 #[.agg #[.int .i64 a1, .int .i64 a2, .int .i64 a3, .int .i64 a4, .int .i64 a5, .string a6], .agg #[.int .i64 b1, .int .i64 b2, .int .i64 b3, .int .i64 b4, .int .i64 b5, .string b6]] u fun e w' => e = .returned (.bool Q) ∧ Below u.heap.size u w'))
    (HE : Hid (∀ u, (binOp .eql 23 (.agg #[.int .i64 a1, .int .i64 a2, .int .i64 a3, .int .i64 a4, .int .i64 a5, .string a6]) (.agg #[.int .i64 b1, .int .i64 b2, .int .i64 b3, .int .i64 b4, .int .i64 b5, .string b6])).run Try.prog u = .ok (.bool Q) u))
    (HI : Hid (∀ u, Calls Try.prog 8 #[.agg #[.int .i64 a1, .int .i64 a2, .int .i64 a3, .int .i64 a4, .int .i64 a5, .string a6], .agg #[.int .i64 a1, .int .i64 a2, .int .i64 a3, .int .i64 a4, .int .i64 a5, .string a6]] u fun e w' => e = .returned (.bool true) ∧ Below u.heap.size u w'))
    (HP : Hid (∀ u, Below w.heap.size w u → Calls Try.prog 9 #[.agg #[.int .i64 r1, .int .i64 r2, .string r3, .slice ra rn rc], .agg #[.int .i64 s1, .int .i64 s2, .string s3, .slice sa sn sc]] u fun e w' => e = .returned (.bool SR) ∧ Below u.heap.size u w'))
    (HQ : Hid (∀ u, Below w.heap.size w u → Calls Try.prog 10 #[.agg #[.int .i64 r1, .int .i64 r2, .string r3, .slice ra rn rc], .agg #[.int .i64 s1, .int .i64 s2, .string s3, .slice sa sn sc]] u fun e w' => e = .returned (.bool SR) ∧ Below u.heap.size u w'))
    (HR : Hid (∀ u, Below w.heap.size w u → Calls Try.prog 9 #[.agg #[.int .i64 r1, .int .i64 r2, .string r3, .slice ra rn rc], .agg #[.int .i64 r1, .int .i64 r2, .string r3, .slice ra rn rc]] u fun e w' => e = .returned (.bool true) ∧ Below u.heap.size u w'))
    (HK : Hid (∀ u, Calls Try.prog 11 #[.agg #[.int .i64 a1, .int .i64 a2, .int .i64 a3, .int .i64 a4, .int .i64 a5, .string a6]] u fun e w' => e = .returned (.int .i64 (-1)) ∧ Below u.heap.size u w'))
    (HN : Hid (∀ u, Calls Try.prog 12 #[.agg #[.int .i64 a1, .int .i64 a2, .int .i64 a3, .int .i64 a4, .int .i64 a5, .string a6], .int .i64 n] u fun e w' => e = .returned (.bool false) ∧ Below u.heap.size u w')) :
    Calls Try.prog 3 #[.agg #[.int .i64 a1, .int .i64 a2, .int .i64 a3, .int .i64 a4, .int .i64 a5, .string a6], .agg #[.int .i64 b1, .int .i64 b2, .int .i64 b3, .int .i64 b4, .int .i64 b5, .string b6], .agg #[.int .i64 r1, .int .i64 r2, .string r3, .slice ra rn rc], .agg #[.int .i64 s1, .int .i64 s2, .string s3, .slice sa sn sc], .int .i64 n] w fun e w' => e = .returned (.bool true) ∧ Below w.heap.size w w' := by
  have HT := Lib.hid (fun u => told3_any u)
  go_enter Try.func3, Try.ntmps3
  go_wp2_with fail
  refine (HM.out _).mono ?_
  rintro e w1 ⟨rfl, B1⟩
  have P1 : Hid (PS w w1 a1 a2 a3 a4 a5 a6 b1 b2 b3 b4 b5 b6 r1 r2 r3 ra rn rc s1 s2 s3 sa sn sc) := (PS.start w a1 a2 a3 a4 a5 a6 b1 b2 b3 b4 b5 b6 r1 r2 r3 ra rn rc s1 s2 s3 sa sn sc).step B1
  clear B1
  obtain ⟨c0, c1, c2, c3, c4, c5⟩ := P1.out.a.cells
  go_wp2_with fail
  clear c0 c1 c2 c3 c4 c5
  have FX : Hid (∀ u, PS w u a1 a2 a3 a4 a5 a6 b1 b2 b3 b4 b5 b6 r1 r2 r3 ra rn rc s1 s2 s3 sa sn sc → u.cell? ⟨w.heap.size, 0, none⟩ = some (.int .i64 a1) ∧ u.cell? ⟨w.heap.size, 1, none⟩ = some (.int .i64 a2) ∧ u.cell? ⟨w.heap.size, 2, none⟩ = some (.int .i64 a3) ∧ u.cell? ⟨w.heap.size, 3, none⟩ = some (.int .i64 a4) ∧ u.cell? ⟨w.heap.size, 4, none⟩ = some (.int .i64 a5) ∧ u.cell? ⟨w.heap.size, 5, none⟩ = some (.string a6) ∧ u.cell? ⟨w.heap.size + 1, 0, none⟩ = some (.int .i64 b1) ∧ u.cell? ⟨w.heap.size + 1, 1, none⟩ = some (.int .i64 b2) ∧ u.cell? ⟨w.heap.size + 1, 2, none⟩ = some (.int .i64 b3) ∧ u.cell? ⟨w.heap.size + 1, 3, none⟩ = some (.int .i64 b4) ∧ u.cell? ⟨w.heap.size + 1, 4, none⟩ = some (.int .i64 b5) ∧ u.cell? ⟨w.heap.size + 1, 5, none⟩ = some (.string b6) ∧ u.cell? ⟨w.heap.size + 2, 0, none⟩ = some (.int .i64 r1) ∧ u.cell? ⟨w.heap.size + 2, 1, none⟩ = some (.int .i64 r2) ∧ u.cell? ⟨w.heap.size + 2, 2, none⟩ = some (.string r3) ∧ u.cell? ⟨w.heap.size + 2, 3, none⟩ = some (.slice ra rn rc) ∧ u.cell? ⟨w.heap.size + 3, 0, none⟩ = some (.int .i64 s1) ∧ u.cell? ⟨w.heap.size + 3, 1, none⟩ = some (.int .i64 s2) ∧ u.cell? ⟨w.heap.size + 3, 2, none⟩ = some (.string s3) ∧ u.cell? ⟨w.heap.size + 3, 3, none⟩ = some (.slice sa sn sc)) := fun u hu =>
    ⟨hu.a.cells.1, hu.a.cells.2.1, hu.a.cells.2.2.1, hu.a.cells.2.2.2.1, hu.a.cells.2.2.2.2.1, hu.a.cells.2.2.2.2.2, hu.b.cells.1, hu.b.cells.2.1, hu.b.cells.2.2.1, hu.b.cells.2.2.2.1, hu.b.cells.2.2.2.2.1, hu.b.cells.2.2.2.2.2,
     hu.r.cells.1, hu.r.cells.2.1, hu.r.cells.2.2.1, hu.r.cells.2.2.2, hu.s.cells.1, hu.s.cells.2.1, hu.s.cells.2.2.1, hu.s.cells.2.2.2⟩
  refine region_quiet (fun v => PS w v a1 a2 a3 a4 a5 a6 b1 b2 b3 b4 b5 b6 r1 r2 r3 ra rn rc s1 s2 s3 sa sn sc) (by kernel_rfl) (by kernel_rfl) P1.out.drew ?_
  repeat (first
    | go_big_quiet_skip
    | (go_big_quiet_want
       (first
        | (refine quiet_run (v := ?_) ?_ ?_; rotate_left; (intro u hu; obtain ⟨c0, c1, c2, c3, c4, c5, d0, d1, d2, d3, d4, d5, e0, e1, e2, e3, f0, f1, f2, f3⟩ := FX.out u hu; go_simp <;> with_reducible rfl); simp only [Act.put, List.setIfInBounds_toArray, List.set_cons_zero, List.set_cons_succ]; go_big_quiet_on)
        | (refine quiet_enter 6 _ ?_ (fun u hu => (HT.out u).mono fun e u' ⟨he, hb⟩ => ⟨he, hu.step hb⟩) ?_; (focus (intro u; first | (go_simp; done) | (go_simp; with_reducible rfl))); simp only [Act.put, List.setIfInBounds_toArray, List.set_cons_zero, List.set_cons_succ]; go_big_quiet_on)
        | (refine quiet_enter 8 _ ?_ (fun u hu => (HS.out u).mono fun e u' ⟨he, hb⟩ => ⟨he, hu.step hb⟩) ?_; (focus (intro u; first | (go_simp; done) | (go_simp; with_reducible rfl))); simp only [Act.put, List.setIfInBounds_toArray, List.set_cons_zero, List.set_cons_succ]; go_big_quiet_on)
        | (refine quiet_enter 8 _ ?_ (fun u hu => (HI.out u).mono fun e u' ⟨he, hb⟩ => ⟨he, hu.step hb⟩) ?_; (focus (intro u; first | (go_simp; done) | (go_simp; with_reducible rfl))); simp only [Act.put, List.setIfInBounds_toArray, List.set_cons_zero, List.set_cons_succ]; go_big_quiet_on)
        | (refine quiet_enter 9 _ ?_ (fun u hu => (HP.out u hu.bel).mono fun e u' ⟨he, hb⟩ => ⟨he, hu.step hb⟩) ?_; (focus (intro u; first | (go_simp; done) | (go_simp; with_reducible rfl))); simp only [Act.put, List.setIfInBounds_toArray, List.set_cons_zero, List.set_cons_succ]; go_big_quiet_on)
        | (refine quiet_enter 10 _ ?_ (fun u hu => (HQ.out u hu.bel).mono fun e u' ⟨he, hb⟩ => ⟨he, hu.step hb⟩) ?_; (focus (intro u; first | (go_simp; done) | (go_simp; with_reducible rfl))); simp only [Act.put, List.setIfInBounds_toArray, List.set_cons_zero, List.set_cons_succ]; go_big_quiet_on)
        | (refine quiet_enter 9 _ ?_ (fun u hu => (HR.out u hu.bel).mono fun e u' ⟨he, hb⟩ => ⟨he, hu.step hb⟩) ?_; (focus (intro u; first | (go_simp; done) | (go_simp; with_reducible rfl))); simp only [Act.put, List.setIfInBounds_toArray, List.set_cons_zero, List.set_cons_succ]; go_big_quiet_on)
        | (refine quiet_enter 11 _ ?_ (fun u hu => (HK.out u).mono fun e u' ⟨he, hb⟩ => ⟨he, hu.step hb⟩) ?_; (focus (intro u; first | (go_simp; done) | (go_simp; with_reducible rfl))); simp only [Act.put, List.setIfInBounds_toArray, List.set_cons_zero, List.set_cons_succ]; go_big_quiet_on)
        | (refine quiet_enter 12 _ ?_ (fun u hu => (HN.out u).mono fun e u' ⟨he, hb⟩ => ⟨he, hu.step hb⟩) ?_; (focus (intro u; first | (go_simp; done) | (go_simp; with_reducible rfl))); simp only [Act.put, List.setIfInBounds_toArray, List.set_cons_zero, List.set_cons_succ]; go_big_quiet_on)
        | (refine quiet_run (v := .bool Q) (fun u _ => exec_eq_agg _ _ (by kernel_rfl) rfl rfl rfl (HE.out u)) ?_; simp only [Act.put, List.setIfInBounds_toArray, List.set_cons_zero, List.set_cons_succ]; go_big_quiet_on))))
  refine wpQuiet_nil ?_
  intro w4 h4
  have C4 : Hid (Below w.heap.size w w4) := h4.bel
  clear P1 FX h4
  go_wp2
  go_returns
  exact ⟨rfl, C4.out⟩

theorem walk (a1 a2 a3 a4 a5 : Int) (a6 : ByteArray) (b1 b2 b3 b4 b5 : Int) (b6 : ByteArray) (r1 r2 : Int) (r3 : ByteArray) (rv : Value) (rl : List Int) (s1 s2 : Int) (s3 : ByteArray) (sv : Value) (sl : List Int) (n : Int) (w : World)
    (ha : a6.size ≤ maxLen) (_ : b6.size ≤ maxLen) (_ : r3.size ≤ 140737488351232) (hr : Ints w w.heap.size rv rl) (_ : s3.size ≤ 140737488351232) (hs : Ints w w.heap.size sv sl) (_ : (Lit.int .i64 n).wf = true) :
    Calls Try.prog 3 #[.agg #[.int .i64 a1, .int .i64 a2, .int .i64 a3, .int .i64 a4, .int .i64 a5, .string a6], .agg #[.int .i64 b1, .int .i64 b2, .int .i64 b3, .int .i64 b4, .int .i64 b5, .string b6], .agg #[.int .i64 r1, .int .i64 r2, .string r3, rv], .agg #[.int .i64 s1, .int .i64 s2, .string s3, sv], .int .i64 n] w fun e w' => e = .returned (.bool true) ∧ Below w.heap.size w w' := by
  unfold maxLen at ha
  have hr' := hr
  have hs' := hs
  obtain ⟨ra, rc, rfl, _⟩ := hr'
  obtain ⟨sa, sc, rfl, _⟩ := hs'
  by_cases g0 : rl.length ≤ 120
  case neg => exact many0 a1 a2 a3 a4 a5 a6 b1 b2 b3 b4 b5 b6 r1 r2 r3 ra rl.length rc s1 s2 s3 sa sl.length sc n w (by omega)
  by_cases g1 : sl.length ≤ 120
  case neg => exact many1 a1 a2 a3 a4 a5 a6 b1 b2 b3 b4 b5 b6 r1 r2 r3 ra rl.length rc s1 s2 s3 sa sl.length sc n w g0 (by omega)
  by_cases g2 : a6.size ≤ 300
  case neg => exact many2 a1 a2 a3 a4 a5 a6 b1 b2 b3 b4 b5 b6 r1 r2 r3 ra rl.length rc s1 s2 s3 sa sl.length sc n w g0 g1 (by omega)
  by_cases g3 : b6.size ≤ 300
  case neg => exact many3 a1 a2 a3 a4 a5 a6 b1 b2 b3 b4 b5 b6 r1 r2 r3 ra rl.length rc s1 s2 s3 sa sl.length sc n w g0 g1 g2 (by omega)
  obtain ⟨Q, hQ⟩ : ∃ Q, Q = (a1 == b1 && a2 == b2 && a3 == b3 && a4 == b4 && a5 == b5 && a6.toList == b6.toList) := ⟨_, rfl⟩
  obtain ⟨SR, hSR⟩ : ∃ Q, Q = (r1 == s1 && r2 == s2 && r3.toList == s3.toList && decide (rl = sl)) := ⟨_, rfl⟩
  have HS : Hid (∀ u, Calls Try.prog 8 #[.agg #[.int .i64 a1, .int .i64 a2, .int .i64 a3, .int .i64 a4, .int .i64 a5, .string a6], .agg #[.int .i64 b1, .int .i64 b2, .int .i64 b3, .int .i64 b4, .int .i64 b5, .string b6]] u fun e w' => e = .returned (.bool Q) ∧ Below u.heap.size u w') := fun u => same_r a1 a2 a3 a4 a5 b1 b2 b3 b4 b5 a6 b6 Q hQ u
  have HE : Hid (∀ u, (binOp .eql 23 (.agg #[.int .i64 a1, .int .i64 a2, .int .i64 a3, .int .i64 a4, .int .i64 a5, .string a6]) (.agg #[.int .i64 b1, .int .i64 b2, .int .i64 b3, .int .i64 b4, .int .i64 b5, .string b6])).run Try.prog u = .ok (.bool Q) u) := fun u => by rw [hQ]; exact run_eq_req a1 a2 a3 a4 a5 b1 b2 b3 b4 b5 a6 b6 u
  have HI : Hid (∀ u, Calls Try.prog 8 #[.agg #[.int .i64 a1, .int .i64 a2, .int .i64 a3, .int .i64 a4, .int .i64 a5, .string a6], .agg #[.int .i64 a1, .int .i64 a2, .int .i64 a3, .int .i64 a4, .int .i64 a5, .string a6]] u fun e w' => e = .returned (.bool true) ∧ Below u.heap.size u w') := fun u => same_r a1 a2 a3 a4 a5 a1 a2 a3 a4 a5 a6 a6 true (by simp) u
  have HP : Hid (∀ u, Below w.heap.size w u → Calls Try.prog 9 #[.agg #[.int .i64 r1, .int .i64 r2, .string r3, .slice ra rl.length rc], .agg #[.int .i64 s1, .int .i64 s2, .string s3, .slice sa sl.length sc]] u fun e w' => e = .returned (.bool SR) ∧ Below u.heap.size u w') :=
    fun u hb => samereply_any r1 r2 s1 s2 r3 s3 _ _ rl sl _ u (hr.keep hb) (hs.keep hb) hb.size (by omega) SR hSR
  have HQ : Hid (∀ u, Below w.heap.size w u → Calls Try.prog 10 #[.agg #[.int .i64 r1, .int .i64 r2, .string r3, .slice ra rl.length rc], .agg #[.int .i64 s1, .int .i64 s2, .string s3, .slice sa sl.length sc]] u fun e w' => e = .returned (.bool SR) ∧ Below u.heap.size u w') :=
    fun u hb => refsamereply_any r1 r2 s1 s2 r3 s3 _ _ rl sl _ u (hr.keep hb) (hs.keep hb) hb.size (by omega) SR hSR
  have HR : Hid (∀ u, Below w.heap.size w u → Calls Try.prog 9 #[.agg #[.int .i64 r1, .int .i64 r2, .string r3, .slice ra rl.length rc], .agg #[.int .i64 r1, .int .i64 r2, .string r3, .slice ra rl.length rc]] u fun e w' => e = .returned (.bool true) ∧ Below u.heap.size u w') :=
    fun u hb => samereply_any r1 r2 r1 r2 r3 r3 _ _ rl rl _ u (hr.keep hb) (hr.keep hb) hb.size (by omega) true (show _ = _ by simp)
  by_cases hm : ReqV.may ⟨a1, a2, a3, a4, a5, a6⟩
  · exact yes a1 a2 a3 a4 a5 a6 b1 b2 b3 b4 b5 b6 r1 r2 r3 ra rl.length rc s1 s2 s3 sa sl.length sc n w g0 g1 g2 g3 Q SR
      (fun u => refmay_r a1 a2 a3 a4 a5 a6 ha true (show _ = _ from (decide_eq_true hm).symm) u) HS HE HI HP HQ HR
      (fun u => key_r a1 a2 a3 a4 a5 a6 ha a4 (show _ = _ from (if_pos hm).symm) u)
      (fun u => newer_r a1 a2 a3 a4 a5 n a6 ha _ (show _ = _ by rw [decide_eq_true hm]; rfl) u)
  · exact no a1 a2 a3 a4 a5 a6 b1 b2 b3 b4 b5 b6 r1 r2 r3 ra rl.length rc s1 s2 s3 sa sl.length sc n w g0 g1 g2 g3 Q SR
      (fun u => refmay_r a1 a2 a3 a4 a5 a6 ha false (show _ = _ from (decide_eq_false hm).symm) u) HS HE HI HP HQ HR
      (fun u => key_r a1 a2 a3 a4 a5 a6 ha (-1) (show _ = _ from (if_neg hm).symm) u)
      (fun u => newer_r a1 a2 a3 a4 a5 n a6 ha false (show _ = _ by rw [decide_eq_false hm]; rfl) u)

set_option maxRecDepth 100000 in
theorem lifted (os : Os) (started : os.Started) (H : Type) (enc : TypeId × Value → H) :
    ReturnsInHanded {} Try.checked os 3 .any (Rows.reqSameSpec.pre6 enc Try.prog Try.f3 Rows.reqSameRow.domain false) (Rows.reqSameSpec.post enc Try.prog Try.f3 false true false false) := by
  refine returnsInHanded_of_change_sized (C := Try.checked) own started (by kernel_rfl) Try.func3
    (ChangeSpec.witness6 (enc := enc) (C := Try.checked) false ⟨#[], #[.agg #[.int .i64 0, .int .i64 0, .int .i64 0, .int .i64 0, .int .i64 0, .string ByteArray.empty], .agg #[.int .i64 0, .int .i64 0, .int .i64 0, .int .i64 0, .int .i64 0, .string ByteArray.empty], .agg #[.int .i64 0, .int .i64 0, .string ByteArray.empty, .slice none 0 0], .agg #[.int .i64 0, .int .i64 0, .string ByteArray.empty, .slice none 0 0], .int .i64 0], []⟩ 8 (by kernel_rfl) (by kernel_rfl) (by kernel_rfl) (by kernel_rfl)) ?_
  intro W base args ds gs before hval0 hW hcnd hsz0 _
  have hval : ∀ (j : Nat) t v, Try.f3.params[j]? = some t → args[j]? = some v → Value.okWide Try.prog W .any base t v := hval0
  have hW' := hW
  obtain ⟨p, q, hA0, hV, rfl, hfz, hnd⟩ := hW
  have hA : DataW.TrodAll enc Try.prog W 0 (fun _ => true) true Try.f3.params.toList args.toList ds p := hA0
  rw [Try.params3] at hA hval
  have hsz : (DataW.weightsEach Try.prog (Try.f3.params.toList ++ Rows.reqSameSpec.plain.varTypes Try.prog) (ds ++ gs)).all (· ≤ reachBytes) = true := hsz0
  clear hsz0
  rw [Try.params3] at hsz
  obtain ⟨v0, vs0, d0, ds0, p0, q0, hargs, rfl, rfl, h0, r0⟩ := trodAll_cons hA
  obtain ⟨v1, vs1, d1, ds1, p1, q1, rfl, rfl, rfl, h1, r1⟩ := trodAll_cons r0
  obtain ⟨v2, vs2, d2, ds2, p2, q2, rfl, rfl, rfl, h2, r2⟩ := trodAll_cons r1
  obtain ⟨v3, vs3, d3, ds3, p3, q3, rfl, rfl, rfl, h3, r3⟩ := trodAll_cons r2
  obtain ⟨v4, vs4, d4, ds4, p4, q4, rfl, rfl, rfl, h4, r4⟩ := trodAll_cons r3
  obtain ⟨rfl, rfl, rfl⟩ := trodAll_nil r4
  obtain rfl : args = #[v0, v1, v2, v3, v4] := by cases args; simp_all
  obtain ⟨rfl, rfl⟩ := trodVars_none hV
  have k0 := h0
  have lt0 : ∀ x ∈ p0, x.block < W.heap.size := by obtain ⟨m, hm⟩ := k0; exact DataW.trod_lt m _ _ _ hm
  obtain ⟨⟨xa0, xb0, xc0, xd0, xe0, xf0⟩, w0, rfl⟩ := req_open (hval 0 23 v0 rfl rfl) h0
  have k1 := h1
  have lt1 : ∀ x ∈ p1, x.block < W.heap.size := by obtain ⟨m, hm⟩ := k1; exact DataW.trod_lt m _ _ _ hm
  obtain ⟨⟨xa1, xb1, xc1, xd1, xe1, xf1⟩, w1, rfl⟩ := req_open (hval 1 23 v1 rfl rfl) h1
  have k2 := h2
  have lt2 : ∀ x ∈ p2, x.block < W.heap.size := by obtain ⟨m, hm⟩ := k2; exact DataW.trod_lt m _ _ _ hm
  obtain ⟨xa2, xb2, xc2, xd2, xe2, xf2, l2, rfl, w2, z2⟩ := reply_open (hval 2 26 v2 rfl rfl) h2
  have s2 : xc2.size ≤ 140737488351232 := of_decide_eq_true (List.all_eq_true.1 hsz _ (DataW.weights_mem_each (j := 2) (t := 26) (d := d2) rfl rfl _ z2))
  have k3 := h3
  have lt3 : ∀ x ∈ p3, x.block < W.heap.size := by obtain ⟨m, hm⟩ := k3; exact DataW.trod_lt m _ _ _ hm
  obtain ⟨xa3, xb3, xc3, xd3, xe3, xf3, l3, rfl, w3, z3⟩ := reply_open (hval 3 26 v3 rfl rfl) h3
  have s3 : xc3.size ≤ 140737488351232 := of_decide_eq_true (List.all_eq_true.1 hsz _ (DataW.weights_mem_each (j := 3) (t := 26) (d := d3) rfl rfl _ z3))
  obtain ⟨a4, rfl, rfl, rfl, w4⟩ := open_int Try.underlying3 (hval 4 3 v4 rfl rfl) h4
  clear hA0 hval0
  refine (walk xa0 xb0 xc0 xd0 xe0 xf0 xa1 xb1 xc1 xd1 xe1 xf1 xa2 xb2 xc2 (.slice xd2 xe2 xf2) l2 xa3 xb3 xc3 (.slice xd3 xe3 xf3) l3 a4 W w0 w1 s2 w2 s3 w3 w4).mono fun e W' ⟨he, bel⟩ => ?_
  subst he
  exact ⟨_, rfl, _, _, _, [], _, [], hW', trodAll_mk1 (shut_bool Try.underlying4 _), (trodAll_cons_mk (Below.trod laidOut (by kernel_rfl) (of_decide_eq_true (by kernel_rfl)) k0 bel lt0) (trodAll_cons_mk (Below.trod laidOut (by kernel_rfl) (of_decide_eq_true (by kernel_rfl)) k1 bel lt1) (trodAll_cons_mk (Below.trod laidOut (by kernel_rfl) (of_decide_eq_true (by kernel_rfl)) k2 bel lt2) (trodAll_cons_mk (Below.trod laidOut (by kernel_rfl) (of_decide_eq_true (by kernel_rfl)) k3 bel lt3) (trodAll_cons_mk (shut_int Try.underlying3 w4) trodAll_mk0))))), rfl, bel.frame _, fun h => by cases h⟩

theorem over : Rows.reqSameRow.holds Try.pinned (OpenSpec.ofChange Rows.reqSameSpec) :=
  OpenClaim.holds_of_wide 3 Try.f3 rfl rfl rfl rfl rfl rfl rfl ⟨rfl, rfl, rfl, rfl, rfl⟩ rfl rfl rfl rfl rfl (by kernel_rfl) Try.func3 (by kernel_rfl)
    (of_decide_eq_true (by kernel_rfl)) (by unfold Func.isWrapper; first | (rw [if_pos (by decide +kernel)]; kernel_rfl) | (rw [if_neg (by decide +kernel)]; exact ⟨rfl, rfl⟩))
    (fun os started H enc _ => lifted os started H enc)
end Go.Proofs.Ytjgeopdcniameaa.ReqSame

namespace Go.Proofs.Ytjgeopdcniameaa
theorem reqSame_holds : Rows.ReqSameSaid := ReqSame.over
#print axioms reqSame_holds
end Go.Proofs.Ytjgeopdcniameaa
