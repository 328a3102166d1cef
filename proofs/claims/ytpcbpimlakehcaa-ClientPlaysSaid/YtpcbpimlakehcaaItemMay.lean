/-
  THE REFERENCE'S MayReq, Writes, AND THE LAW'S few, as plain functions of a request. No condition but that the request can be read.
-/
import Derived.Test.YtpcbpimlakehcaaItemA
namespace Go.Proofs.Ytpcbpimlakehcaa
open Go.RowKit

set_option maxHeartbeats 4000000 in
set_option maxRecDepth 100000 in
theorem refmay_far (cl sq kd id mt : Int) (dt : ByteArray) (hd : dt.size ≤ 9223372036854775807) (w : World)
    (h : cl < 0 ∨ 4 ≤ cl ∨ sq < 1 ∨ 1073741824 < sq ∨ kd < 1 ∨ 6 < kd ∨ id < 0 ∨ 31 < id ∨ 64 < dt.size ∨ mt < 0 ∨ 100 < mt) :
    Calls Try.prog 50 #[.agg #[.int .i64 cl, .int .i64 sq, .int .i64 kd, .int .i64 id, .int .i64 mt, .string dt]] w fun e w' => e = .returned (.bool false) ∧ Below w.heap.size w w' := by
  by_cases h0 : cl < 0
  · clear h 
    go_enter Try.func50, Try.ntmps50
    go_wp2
    go_returns
    exact ⟨rfl, by first | exact (Below.refl _ _).alloc (Nat.le_refl _) _ | go_grown⟩
  by_cases h1 : 4 ≤ cl
  · have g0 : 0 ≤ cl := by omega
    clear h h0
    go_enter Try.func50, Try.ntmps50
    go_wp2
    go_returns
    exact ⟨rfl, by first | exact (Below.refl _ _).alloc (Nat.le_refl _) _ | go_grown⟩
  by_cases h2 : sq < 1
  · have g0 : 0 ≤ cl := by omega
    have g1 : cl < 4 := by omega
    clear h h0 h1
    go_enter Try.func50, Try.ntmps50
    go_wp2
    go_returns
    exact ⟨rfl, by first | exact (Below.refl _ _).alloc (Nat.le_refl _) _ | go_grown⟩
  by_cases h3 : 1073741824 < sq
  · have g0 : 0 ≤ cl := by omega
    have g1 : cl < 4 := by omega
    have g2 : 1 ≤ sq := by omega
    clear h h0 h1 h2
    go_enter Try.func50, Try.ntmps50
    go_wp2
    go_returns
    exact ⟨rfl, by first | exact (Below.refl _ _).alloc (Nat.le_refl _) _ | go_grown⟩
  by_cases h4 : kd < 1
  · have g0 : 0 ≤ cl := by omega
    have g1 : cl < 4 := by omega
    have g2 : 1 ≤ sq := by omega
    have g3 : sq ≤ 1073741824 := by omega
    clear h h0 h1 h2 h3
    go_enter Try.func50, Try.ntmps50
    go_wp2
    go_returns
    exact ⟨rfl, by first | exact (Below.refl _ _).alloc (Nat.le_refl _) _ | go_grown⟩
  by_cases h5 : 6 < kd
  · have g0 : 0 ≤ cl := by omega
    have g1 : cl < 4 := by omega
    have g2 : 1 ≤ sq := by omega
    have g3 : sq ≤ 1073741824 := by omega
    have g4 : 1 ≤ kd := by omega
    clear h h0 h1 h2 h3 h4
    go_enter Try.func50, Try.ntmps50
    go_wp2
    go_returns
    exact ⟨rfl, by first | exact (Below.refl _ _).alloc (Nat.le_refl _) _ | go_grown⟩
  by_cases h6 : id < 0
  · have g0 : 0 ≤ cl := by omega
    have g1 : cl < 4 := by omega
    have g2 : 1 ≤ sq := by omega
    have g3 : sq ≤ 1073741824 := by omega
    have g4 : 1 ≤ kd := by omega
    have g5 : kd ≤ 6 := by omega
    clear h h0 h1 h2 h3 h4 h5
    go_enter Try.func50, Try.ntmps50
    go_wp2
    go_returns
    exact ⟨rfl, by first | exact (Below.refl _ _).alloc (Nat.le_refl _) _ | go_grown⟩
  by_cases h7 : 31 < id
  · have g0 : 0 ≤ cl := by omega
    have g1 : cl < 4 := by omega
    have g2 : 1 ≤ sq := by omega
    have g3 : sq ≤ 1073741824 := by omega
    have g4 : 1 ≤ kd := by omega
    have g5 : kd ≤ 6 := by omega
    have g6 : 0 ≤ id := by omega
    clear h h0 h1 h2 h3 h4 h5 h6
    go_enter Try.func50, Try.ntmps50
    go_wp2
    go_returns
    exact ⟨rfl, by first | exact (Below.refl _ _).alloc (Nat.le_refl _) _ | go_grown⟩
  by_cases h8 : 64 < dt.size
  · have g0 : 0 ≤ cl := by omega
    have g1 : cl < 4 := by omega
    have g2 : 1 ≤ sq := by omega
    have g3 : sq ≤ 1073741824 := by omega
    have g4 : 1 ≤ kd := by omega
    have g5 : kd ≤ 6 := by omega
    have g6 : 0 ≤ id := by omega
    have g7 : id ≤ 31 := by omega
    clear h h0 h1 h2 h3 h4 h5 h6 h7
    go_enter Try.func50, Try.ntmps50
    go_wp2
    go_returns
    exact ⟨rfl, by first | exact (Below.refl _ _).alloc (Nat.le_refl _) _ | go_grown⟩
  by_cases h9 : mt < 0
  · have g0 : 0 ≤ cl := by omega
    have g1 : cl < 4 := by omega
    have g2 : 1 ≤ sq := by omega
    have g3 : sq ≤ 1073741824 := by omega
    have g4 : 1 ≤ kd := by omega
    have g5 : kd ≤ 6 := by omega
    have g6 : 0 ≤ id := by omega
    have g7 : id ≤ 31 := by omega
    have g8 : dt.size ≤ 64 := by omega
    clear h h0 h1 h2 h3 h4 h5 h6 h7 h8
    go_enter Try.func50, Try.ntmps50
    go_wp2
    go_returns
    exact ⟨rfl, by first | exact (Below.refl _ _).alloc (Nat.le_refl _) _ | go_grown⟩
  by_cases h10 : 100 < mt
  · have g0 : 0 ≤ cl := by omega
    have g1 : cl < 4 := by omega
    have g2 : 1 ≤ sq := by omega
    have g3 : sq ≤ 1073741824 := by omega
    have g4 : 1 ≤ kd := by omega
    have g5 : kd ≤ 6 := by omega
    have g6 : 0 ≤ id := by omega
    have g7 : id ≤ 31 := by omega
    have g8 : dt.size ≤ 64 := by omega
    have g9 : 0 ≤ mt := by omega
    clear h h0 h1 h2 h3 h4 h5 h6 h7 h8 h9
    go_enter Try.func50, Try.ntmps50
    go_wp2
    go_returns
    exact ⟨rfl, by first | exact (Below.refl _ _).alloc (Nat.le_refl _) _ | go_grown⟩
  · exact absurd h (by omega)
end Go.Proofs.Ytpcbpimlakehcaa
