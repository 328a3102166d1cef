/-
  THE PROGRAM's history: the iterator over versions by its contract, and the loop over it. Of versions at most a million.
-/
import Derived.RangeFuncNested
import Derived.RangeFuncBound
import Derived.RangeFuncCalls
import Derived.RangeFuncLeaves
import Derived.RangeFuncBox
import Derived.Shelf.Abstract
import Derived.Shelf.RegionOpen
import Derived.WalkKit
import Derived.OwnWalkIn
import Derived.TacticsInMore
import Derived.LoopNIn
import Derived.LoopIn
import Derived.Maps.AppendAt
import Derived.Test.YtenjjgghoacboaaChartV
namespace Go.Proofs.Ytenjjgghoacboaa
open Go.RowKit Go.Shelf

attribute [local go_sem] Oper.semAt_some

/-- A version with its place, from 0 on. -/
structure NumV where
  i : Nat
  v : VerV
  h : i < 1000000
def numV (k : Nat) (v : VerV) : NumV := ⟨min k 999999, v, by omega⟩
/-- What has come when k rounds are over. -/
def come (L : List VerV) (k : Nat) : List NumV := (List.range k).map fun j => numV j (at' L j)
theorem come_succ (L : List VerV) (k : Nat) : come L (k + 1) = come L k ++ [numV k (at' L k)] := by simp [come, List.range_succ]
theorem come_length (L : List VerV) (k : Nat) : (come L k).length = k := by simp [come]
def encV (x : NumV) : Array Value := #[.int .i64 ((x.i : Int) + 1), .agg #[.bool x.v.gone, .string x.v.data]]
theorem enc_num (k : Nat) (v : VerV) (h : k < 1000000) : encV (numV k v) = #[.int .i64 ((k : Int) + 1), .agg #[.bool v.gone, .string v.data]] := by
  have e : min k 999999 = k := by omega
  simp only [encV, numV, e]

set_option maxRecDepth 100000 in
set_option maxHeartbeats 2000000 in
theorem numbered1_in (F : Fence) (n : Nat) (h7 : F.fn 130) (hro : F.round = none) (hn : 1 ≤ n) (l Bs n₀ b off len cap : Nat) (L : List VerV) (hreach : len ≤ 1000000) (hb : b < n₀) (J Jx : List NumV → World → Prop)
    (hY : ∀ pre x W, J pre W → pre.length < len → YieldAt F (n - 1) Try.prog l (encV x) W fun e W' =>
      (e = .returned (.bool true) ∧ J (pre ++ [x]) W' ∧ Below n₀ W W') ∨ (e = .returned (.bool false) ∧ Jx (pre ++ [x]) W'))
    (W : World) (hn₀ : n₀ ≤ W.heap.size) (hJa : AbidesFrom W.heap.size J) (hBs : W.cell? ⟨Bs, 0, none⟩ = some (.slice (some ⟨b, off, none⟩) len cap))
    (hc : ∀ j, j < len → W.cell? ⟨b, off + j * 2, none⟩ = some (.bool (at' L j).gone) ∧ W.cell? ⟨b, off + j * 2 + 1, none⟩ = some (.string (at' L j).data)) (h0 : J [] W) :
    CallsIn F n Try.prog 130 #[.func (.yield l) #[] #[], .pointer (some ⟨Bs, 0, none⟩)] W fun e W' => (∃ v, e = .returned v) ∧
      ((∃ ys, ys = come L len ∧ J ys W') ∨ (∃ pre, (∃ k, k ≤ len ∧ pre = come L k) ∧ Jx pre W')) := by
  have HC := Lib.hid hc
  clear hc
  refine callsIn_of_wp Try.func130 rfl h7 ?_ hro
  simp only [Try.ntmps130, List.size_toArray, List.length_cons, List.length_nil, Nat.reduceAdd, Nat.reduceSub, Array.replicate_succ, Array.replicate_zero, List.push_toArray, List.append_toArray, List.nil_append, List.cons_append]
  gi_wp2
  gi_loopw [7] (fun i wr => ∃ k : Nat, k ≤ len ∧ i = .int .i64 k ∧ J (come L k) wr ∧ Below n₀ W wr)
    (fun i _ => len - (intOf i).toNat)
  case atStart => exact ⟨0, Nat.zero_le _, rfl, h0, Below.refl _ _⟩
  case round =>
    obtain ⟨k, hk, rfl, hJs, hnx⟩ := hrel
    by_cases hlt : k < len
    · have hq := HC.out k hlt
      have c0 : wr.cell? ⟨b, off + k * 2, none⟩ = some (.bool (at' L k).gone) := (hnx.cell (p := ⟨b, off + k * 2, none⟩) hb).trans hq.1
      have c1 : wr.cell? ⟨b, off + k * 2 + 1, none⟩ = some (.string (at' L k).data) := (hnx.cell (p := ⟨b, off + k * 2 + 1, none⟩) hb).trans hq.2
      clear hq
      obtain ⟨⟨g, d⟩, hx⟩ : ∃ x, at' L k = x := ⟨_, rfl⟩
      rw [hx] at c0 c1
      have HX := Lib.hid hx
      clear hx
      have hJ1 : J (come L k) (wr.alloc (.cells #[.bool g, .string d] 121)) := hJa _ _ _ none hJs (World.grownBy_alloc _ _ none) (fun r e => by cases e)
      obtain ⟨fn, tmps, assign, body, hy, hR⟩ := hY _ (numV k ⟨g, d⟩) _ hJ1 (by rw [come_length]; exact hlt)
      rw [enc_num _ _ (by omega)] at hy
      dsimp only at hy
      have hB1 : Below n₀ W (wr.alloc (.cells #[.bool g, .string d] 121)) := hnx.alloc (Nat.le_trans hn₀ hnx.size) _
      gi_wp2
      refine hR.mono ?_
      rintro e W3 (⟨rfl, hJ3, hk3⟩ | ⟨rfl, hJx3⟩)
      · gi_wp2
        go_roundw
        case rel => exact ⟨k + 1, by omega, by simp, by rw [come_succ, HX.out]; exact hJ3, hB1.trans hk3⟩
        case measure => simp [intOf]; omega
      · gi_wp2
        refine bodyPost_ret (results_none rfl _ _ _) rfl ?_
        exact ⟨⟨_, rfl⟩, .inr ⟨_, ⟨k + 1, by omega, by rw [come_succ, HX.out]⟩, hJx3⟩⟩
    · obtain rfl : k = len := by omega
      gi_wp2
      go_end0
      exact ⟨⟨_, rfl⟩, .inl ⟨_, rfl, hJs⟩⟩

set_option maxRecDepth 100000 in
set_option maxHeartbeats 1000000 in
theorem numbered_in (F : Fence) (n : Nat) (h5 : F.fn 128) (hro : F.round = none) (a : Option Addr) (len cap : Nat) (w : World) :
    CallsIn F n Try.prog 128 #[.slice a len cap] w fun e w' => e = .returned (.func (.func 130) #[] #[.pointer (some ⟨w.heap.size, 0, none⟩)]) ∧ w' = w.alloc (.cells #[.slice a len cap] 112) := by
  refine callsIn_of_wp Try.func128 rfl h5 ?_ hro
  simp only [Try.ntmps128, List.size_toArray, List.length_cons, List.length_nil, Nat.reduceAdd, Nat.reduceSub, Array.replicate_succ, Array.replicate_zero, List.push_toArray, List.append_toArray, List.nil_append, List.cons_append]
  gi_wp2
  go_ret
  exact ⟨rfl, rfl⟩

theorem numbered_stops (F : Fence) (n : Nat) (h8 : F.fn 130) (hro : F.round = none) (hn : 1 ≤ n) (Bs n₀ b off cap : Nat) (L : List VerV) (hreach : L.length ≤ 1000000) (w : World) (hBs : Bs < w.heap.size) (hn₀ : n₀ ≤ w.heap.size)
    (hb : b < n₀) (hc : w.cell? ⟨Bs, 0, none⟩ = some (.slice (some ⟨b, off, none⟩) L.length cap)) (hI : ∀ j, j < L.length → w.cell? ⟨b, off + j * 2, none⟩ = some (.bool (at' L j).gone) ∧ w.cell? ⟨b, off + j * 2 + 1, none⟩ = some (.string (at' L j).data)) :
    SeqStopsK F n Try.prog 130 #[.pointer (some ⟨Bs, 0, none⟩)] encV (Below n₀) (fun ys => ys = come L L.length) (fun pre => ∃ k, k ≤ L.length ∧ pre = come L k) L.length w := fun l J Jx W hW hJa _ hY h0 => by
  have hc' := (hW.cell (p := ⟨Bs, 0, none⟩) hBs).trans hc
  have hI' : ∀ j, j < L.length → W.cell? ⟨b, off + j * 2, none⟩ = some (.bool (at' L j).gone) ∧ W.cell? ⟨b, off + j * 2 + 1, none⟩ = some (.string (at' L j).data) := fun j hj =>
    ⟨(hW.cell (p := ⟨b, off + j * 2, none⟩) (show b < w.heap.size by omega)).trans (hI j hj).1, (hW.cell (p := ⟨b, off + j * 2 + 1, none⟩) (show b < w.heap.size by omega)).trans (hI j hj).2⟩
  exact numbered1_in F n h8 hro hn l Bs n₀ b off L.length cap L hreach hb J Jx hY W (Nat.le_trans hn₀ hW.size) hJa hc' hI' h0
end Go.Proofs.Ytenjjgghoacboaa
