/-
  THE REFERENCE's Ask, of versions at most a million.
-/
import Derived.Test.YtenjjgghoacboaaChartA
import Derived.BigRegion
namespace Go.Proofs.Ytenjjgghoacboaa
open Go.RowKit

set_option maxRecDepth 100000 in
set_option maxHeartbeats 1000000 in
theorem ra_none (ao : Option Addr) (cap : Nat) (cl sq kd id mt : Int) (dt : ByteArray) (w : World) (hk : kd = 4 ∨ kd = 6) :
    Calls Try.prog 127 #[.slice ao 0 cap, .agg #[.int .i64 cl, .int .i64 sq, .int .i64 kd, .int .i64 id, .int .i64 mt, .string dt]] w (Tells [] 2 0 ⟨#[]⟩ w) := by
  rcases hk with rfl | rfl
  all_goals
    go_enter Try.func127, Try.ntmps127
    go_wp2
    go_returns
    exact ⟨none, 0, rfl, Ints.none _ _, fun a h => (by cases h), by go_grown⟩

set_option maxRecDepth 100000 in
set_option maxHeartbeats 1000000 in
theorem ra_out (ao : Option Addr) (n cap : Nat) (cl sq id mt : Int) (dt : ByteArray) (w : World) (h : mt < 1 ∨ (n : Int) < mt) :
    Calls Try.prog 127 #[.slice ao n cap, .agg #[.int .i64 cl, .int .i64 sq, .int .i64 5, .int .i64 id, .int .i64 mt, .string dt]] w (Tells [] 2 0 ⟨#[]⟩ w) := by
  by_cases h1 : mt < 1
  · clear h
    go_enter Try.func127, Try.ntmps127
    go_wp2
    go_returns
    exact ⟨none, 0, rfl, Ints.none _ _, fun a h => (by cases h), by go_grown⟩
  · have h2 : (n : Int) < mt := by omega
    have h3 : 1 ≤ mt := by omega
    clear h h1
    go_enter Try.func127, Try.ntmps127
    go_wp2
    go_returns
    exact ⟨none, 0, rfl, Ints.none _ _, fun a h => (by cases h), by go_grown⟩

set_option maxRecDepth 100000 in
set_option maxHeartbeats 1000000 in
theorem ra_other (v : Value) (cl sq kd id mt : Int) (dt : ByteArray) (w : World) (hv : ∃ ao n cap, v = .slice ao n cap) (h4 : kd ≠ 4) (h5 : kd ≠ 5) (h6 : kd ≠ 6) :
    Calls Try.prog 127 #[v, .agg #[.int .i64 cl, .int .i64 sq, .int .i64 kd, .int .i64 id, .int .i64 mt, .string dt]] w (Tells [] 0 0 ⟨#[]⟩ w) := by
  have b4 : (kd == 4) = false := beq_eq_false_iff_ne.2 h4
  have b5 : (kd == 5) = false := beq_eq_false_iff_ne.2 h5
  have b6 : (kd == 6) = false := beq_eq_false_iff_ne.2 h6
  obtain ⟨ao, n, cap, rfl⟩ := hv
  clear h4 h5 h6
  go_enter Try.func127, Try.ntmps127
  go_wp2
  go_returns
  exact ⟨none, 0, rfl, Ints.none _ _, fun a h => (by cases h), by go_grown⟩

set_option maxRecDepth 100000 in
set_option maxHeartbeats 1000000 in
theorem ra_last (b off n cap : Nat) (g : Bool) (d : ByteArray) (cl sq id mt : Int) (dt : ByteArray) (w : World) (h1 : 1 ≤ n) (hn6 : n ≤ 1000000)
    (hc : Hid (∀ u, Below w.heap.size w u → u.cell? ⟨b, off + (n - 1) * 2, none⟩ = some (.bool g) ∧ u.cell? ⟨b, off + (n - 1) * 2 + 1, none⟩ = some (.string d))) :
    Calls Try.prog 127 #[.slice (some ⟨b, off, none⟩) n cap, .agg #[.int .i64 cl, .int .i64 sq, .int .i64 4, .int .i64 id, .int .i64 mt, .string dt]] w fun e w' =>
      e = .returned (if g = true then .agg #[.int .i64 3, .int .i64 n, .string ⟨#[]⟩, .slice none 0 0] else .agg #[.int .i64 1, .int .i64 n, .string d, .slice none 0 0]) ∧ Below w.heap.size w w' := by
  obtain ⟨c0, c1⟩ := hc.out ((w.alloc (.cells #[.int .i64 cl, .int .i64 sq, .int .i64 4, .int .i64 id, .int .i64 mt, .string dt] 34)).alloc (.cells #[.int .i64 0, .int .i64 0, .string ⟨#[]⟩, .slice none 0 0] 48)) (by go_grown)
  have e0 : ((n : Int) == 0) = false := by rw [beq_eq_false_iff_ne]; omega
  clear hc
  cases g
  all_goals
    go_enter Try.func127, Try.ntmps127
    go_wp2
    go_returns
    exact ⟨rfl, by go_grown⟩

set_option maxRecDepth 100000 in
set_option maxHeartbeats 2000000 in
theorem ra_one (b off n cap : Nat) (k : Nat) (g : Bool) (d : ByteArray) (cl sq id : Int) (dt : ByteArray) (w : World) (hk : k < n) (hn6 : n ≤ 1000000)
    (hc : Hid (∀ u, Below w.heap.size w u → u.cell? ⟨b, off + k * 2, none⟩ = some (.bool g) ∧ u.cell? ⟨b, off + k * 2 + 1, none⟩ = some (.string d))) :
    Calls Try.prog 127 #[.slice (some ⟨b, off, none⟩) n cap, .agg #[.int .i64 cl, .int .i64 sq, .int .i64 5, .int .i64 id, .int .i64 ((k : Int) + 1), .string dt]] w fun e w' =>
      e = .returned (if g = true then .agg #[.int .i64 3, .int .i64 ((k : Int) + 1), .string ⟨#[]⟩, .slice none 0 0] else .agg #[.int .i64 1, .int .i64 ((k : Int) + 1), .string d, .slice none 0 0]) ∧ Below w.heap.size w w' := by
  have i0 : (0 : Int) ≤ (k : Int) := by omega
  have i1 : (k : Int) < (n : Int) := by omega
  obtain ⟨c0, c1⟩ := hc.out ((w.alloc (.cells #[.int .i64 cl, .int .i64 sq, .int .i64 5, .int .i64 id, .int .i64 ((k : Int) + 1), .string dt] 34)).alloc (.cells #[.int .i64 0, .int .i64 0, .string ⟨#[]⟩, .slice none 0 0] 48)) (by go_grown)
  cases g
  case true =>
    clear hc
    go_enter Try.func127, Try.ntmps127
    go_wp2
    go_returns
    exact ⟨rfl, by go_grown⟩
  case false =>
    go_enter Try.func127, Try.ntmps127
    go_wp2
    go_region
    all_goals go_wp2
    all_goals go_returns
    all_goals exact ⟨rfl, by go_grown⟩
end Go.Proofs.Ytenjjgghoacboaa
