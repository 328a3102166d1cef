/-
  THE PROGRAM's CHAIN: turns, With, First, Same. Merged by gen/cat.sh.
-/
import Derived.Test.YtiidmiioegdfaaaChainA
import Derived.Test.YtiidmiioegdfaaaClockV
import Derived.Lib.AppendZeros
/-! ## ChainE -/
/-
  THE PROGRAM's behind; slices.Grow of nil, slices.Concat of two rows of ints. Of rows of at most a thousand.
-/
namespace Go.Proofs.Ytiidmiioegdfaaa
open Go.RowKit

/-- A chain's block, BY ITS TYPE. -/
def ChT (w : World) (b : Nat) (ep : Int) (v : Value) : Prop := w.heap[b]? = some (.cells #[.int .i64 ep, v] 26 (0, 0))
theorem ChT.chB {w : World} {b : Nat} {ep : Int} {v : Value} (h : ChT w b ep v) : ChB w b ep v := ⟨_, h⟩
theorem ChT.lt {w : World} {b : Nat} {ep : Int} {v : Value} (h : ChT w b ep v) : b < w.heap.size := lt_of_block h
theorem ChT.keep {w w' : World} {b B : Nat} {ep : Int} {v : Value} (h : ChT w b ep v) (hb : Below B w w') (hB : b < B) : ChT w' b ep v := (hb.block b hB).trans h
theorem ChT.fresh (w : World) (ep : Int) (v : Value) : ChT (w.alloc (.cells #[.int .i64 ep, v] 26)) w.heap.size ep v := heap_alloc_new w _
theorem ChT.cells {w : World} {b : Nat} {ep : Int} {v : Value} (h : ChT w b ep v) : w.cell? ⟨b, 0, none⟩ = some (.int .i64 ep) ∧ w.cell? ⟨b, 1, none⟩ = some v ∧ w.frozen? ⟨b, 0, none⟩ = false ∧ w.frozen? ⟨b, 1, none⟩ = false := by
  have h' : w.heap[b]? = some (.cells #[.int .i64 ep, v] 26 (0, 0)) := h
  refine ⟨?_, ?_, ?_, ?_⟩ <;> simp [World.cell?, World.frozen?, h']
/-- A chain stored whole. -/
def chW (w : World) (b : Nat) (ep : Int) (v : Value) : World := (w.setCell ⟨b, 0, none⟩ (.int .i64 ep)).setCell ⟨b, 1, none⟩ v
theorem ChT.stored {w : World} {b : Nat} {ep ep' : Int} {v v' : Value} (h : ChT w b ep v) : ChT (chW w b ep' v') b ep' v' ∧ Only (· = b) w (chW w b ep' v') := by
  have h0 : (w.setCell ⟨b, 0, none⟩ (.int .i64 ep')).heap[b]? = some (.cells #[.int .i64 ep', v] 26 (0, 0)) := by rw [heap_setCell_same _ _ _ _ _ _ h]; rfl
  refine ⟨?_, (Only.set b 0 w _).trans (Only.set b 1 _ _)⟩
  show (chW w b ep' v').heap[b]? = _
  unfold chW
  rw [heap_setCell_same _ _ _ _ _ _ h0]
  rfl

theorem info_int12 : (Try.prog.info? 3).map (fun i => (i.zero, i.size, i.bytes)) = some (some (.int .i64 0), 1, 8) := by kernel_rfl

end Go.Proofs.Ytiidmiioegdfaaa

/-! ## ChainF -/
/-
  THE PROGRAM's With, Same, First. Of chains of at most a hundred nodes.
-/
namespace Go.Proofs.Ytiidmiioegdfaaa
open Go.RowKit

theorem rowOn {w w' : World} {base : Nat} {e : TypeId} {size : Nat} {v : Value} {n : Nat} {xs : List Value} (h : w.ownsRow base e size v n xs) (hb : Below w.heap.size w w') : w'.ownsRow base e size v n xs :=
  h.kept (row := none) ⟨hb.os, hb.tape, hb.output, hb.size, fun k hk _ => hb.block k hk⟩ (by cases hv : v.ownBlock with | none => exact .inl rfl | some g => exact .inr (by simp))
theorem own_only {w w' : World} {base b : Nat} {e : TypeId} {size : Nat} {v : Value} {n : Nat} {xs : List Value} (h : w.ownsRow base e size v n xs) (ho : Only (· = b) w w') (hb : b < base) : w'.ownsRow base e size v n xs := by
  refine ⟨h.1, ?_⟩
  rcases h.2 with h0 | ⟨g, cap, cur, rfl, hg, hh, hr⟩
  · exact .inl h0
  · exact .inr ⟨g, cap, cur, rfl, hg, (ho.block g (lt_of_block hh) (fun e => by omega)).trans hh, hr⟩
/-- A chain's box stands. -/
def BoxC (b : Nat) (ep : Int) (v : Value) (u : World) : Prop := u.cell? ⟨b, 0, none⟩ = some (.int .i64 ep) ∧ u.cell? ⟨b, 1, none⟩ = some v
theorem BoxC.on {b : Nat} {ep : Int} {v : Value} {u u' : World} (h : BoxC b ep v u) (hb : Below u.heap.size u u') (hl : b < u.heap.size) : BoxC b ep v u' := ⟨(hb.cell hl).trans h.1, (hb.cell hl).trans h.2⟩

end Go.Proofs.Ytiidmiioegdfaaa

/-! ## ChainG -/
/-
  THE FIRST CHAIN, by the program and by the reference; the program's Same. No condition but, of Same, at most a million nodes.
-/
namespace Go.Proofs.Ytiidmiioegdfaaa
open Go.RowKit

/-- All numbers below one. -/
def firstL (n : Nat) : List Int := (List.range n).map Int.ofNat
theorem firstL_succ (n : Nat) : firstL (n + 1) = firstL n ++ [(n : Int)] := by simp [firstL, List.range_succ, List.map_append]
theorem firstL_length (n : Nat) : (firstL n).length = n := by simp [firstL]

set_option maxRecDepth 100000 in
set_option maxHeartbeats 4000000 in
theorem chfirst_in (n : Nat) (h1 : 1 ≤ n) (h5 : n ≤ 5) (w : World) :
    Calls Try.prog 38 #[.int .i64 n] w fun e w' => ∃ a c, e = .returned (.tuple #[.agg #[.int .i64 1, .slice a n c], .int .i64 0]) ∧ w'.ownsRow w.heap.size 3 1 (.slice a n c) n (intCells (firstL n)) ∧ Below w.heap.size w w' := by
  obtain ⟨i0, hi, hz0, hz1, hz2⟩ := info_parts info_int12
  have n1 : ¬ ((n : Int) < 1) := by omega
  have n2 : ¬ ((5 : Int) < (n : Int)) := by omega
  go_enter Try.func38, Try.ntmps38
  go_wp2_with fail
  go_loopw [15] (fun s wr => ∃ (k : Nat) (a : Option Addr) (c : Nat), k ≤ n ∧ s = .int .i64 k ∧ Hid (ChT wr w.heap.size 0 (.slice none 0 0) ∧ ChT wr (w.heap.size + 1) 1 (.slice a k c) ∧ wr.ownsRow (w.heap.size + 2) 3 1 (.slice a k c) k (intCells (firstL k)) ∧ Below w.heap.size w wr)) (fun s _ => n - (intOf s).toNat)
  case atStart =>
    refine ⟨0, none, 0, Nat.zero_le _, rfl, ?_, ?_, World.ownsRow_nil _ _ _ _, ?_⟩
    · exact (ChT.fresh w 0 (.slice none 0 0)).keep ((Below.refl _ _).alloc (Nat.le_refl _) _) (by simp)
    · have := ChT.fresh (w.alloc (.cells #[.int .i64 0, .slice none 0 0] 26)) 1 (.slice none 0 0)
      rwa [World.size_alloc] at this
    · exact ((Below.refl _ w).alloc (Nat.le_refl _) _).alloc (by simp) _
  case round =>
    obtain ⟨k, a, c, hk, rfl, HR⟩ := hrel
    obtain ⟨r0, r1, z0, z1⟩ := HR.out.1.cells
    obtain ⟨c0, c1, f0, f1⟩ := HR.out.2.1.cells
    have hsz := HR.out.2.1.lt
    by_cases hlt : k < n
    · have k1 : (k : Int) < (n : Int) := by omega
      go_wp2_with (at_builtin; refine wpList_append_own_src rfl (.tmp 19) (.tmp 21) 24 24 rfl (w.heap.size + 2) 3 i0 (.int .i64 0) 1 8 Try.underlying24 hi hz0 hz1 hz2 rfl _ _ _ rfl (HR.out.2.2.1.alloc _) _ 1 (intCells [(k : Int)]) rfl (csrc1 wr _) ?c3 ?c4 ?c5 ?_)
      case c3 => unfold maxLen; omega
      case c4 => omega
      case c5 => simp; omega
      intro v2 w2 O2 G2
      obtain ⟨a2, c2, rfl⟩ := own_shape O2
      have hown : ∀ y, Value.ownBlock (.slice a k c) = some y → w.heap.size + 2 ≤ y := fun y hy => (HR.out.2.2.1.lt y hy).1
      have hb2 : Below w.heap.size w w2 := (HR.out.2.2.2.alloc (by omega) _).grown G2 (by simp; omega) (fun y hy => by have := hown y hy; omega)
      have q0 : ChT w2 w.heap.size 0 (.slice none 0 0) := (G2.block _ (by simp; omega) (fun e => by have := hown _ e.symm; omega)).trans (HR.out.1.keep ((Below.refl _ wr).alloc (Nat.le_refl _) _) (by omega))
      have q1 : ChT w2 (w.heap.size + 1) 1 (.slice a k c) := (G2.block _ (by simp; omega) (fun e => by have := hown _ e.symm; omega)).trans (HR.out.2.1.keep ((Below.refl _ wr).alloc (Nat.le_refl _) _) (by omega))
      have O2' := Lib.hid O2
      have Q0 := Lib.hid q0
      have Q1 := Lib.hid q1
      have HB2 := Lib.hid hb2
      clear r0 r1 z0 z1 c0 c1 f0 f1 O2 G2 hown q0 hb2
      obtain ⟨c0, c1, f0, f1⟩ := q1.cells
      clear q1
      go_wp2_with fail
      go_roundw
      case rel =>
        have o1 := Only.set (w.heap.size + 1) 1 w2 (.slice a2 (k + 1) c2)
        refine ⟨k + 1, a2, c2, by omega, by go_num, (o1.block _ Q0.out.lt (by omega)).trans Q0.out, ?_, ?_, o1.below HB2.out (fun x hx => by omega) HB2.out.size⟩
        · show _ = _
          rw [heap_setCell_same _ _ _ _ _ _ Q1.out]
          rfl
        · rw [firstL_succ, ← cells_app]
          exact own_only O2'.out o1 (by omega)
      case measure => simp [intOf]; omega
    · obtain rfl : k = n := by omega
      go_wp2_with fail
      obtain ⟨k1, k2⟩ := HR.out.1.stored (ep' := 1) (v' := .slice a k c)
      obtain ⟨e0, e1, _, _⟩ := k1.cells
      unfold chW at e0 e1
      refine bodyPost_ret (v := .tuple #[.agg #[.int .i64 1, .slice a k c], .int .i64 0]) (by simp [results, Try.results38, go_sem, e0, e1]) rfl ⟨a, c, rfl, own_base (own_only HR.out.2.2.1 k2 (by omega)) (by omega), k2.below HR.out.2.2.2 (fun x hx => by omega) HR.out.2.2.2.size⟩

set_option maxRecDepth 100000 in
set_option maxHeartbeats 2000000 in
theorem chfirst_no (n : Int) (h : n < 1 ∨ 5 < n) (w : World) :
    Calls Try.prog 38 #[.int .i64 n] w fun e w' => e = .returned (.tuple #[.agg #[.int .i64 0, .slice none 0 0], .int .i64 1]) ∧ Below w.heap.size w w' := by
  obtain ⟨k1, k2⟩ := (ChT.fresh w 0 (.slice none 0 0)).stored (ep' := 0) (v' := .slice none 0 0)
  obtain ⟨e0, e1, _, _⟩ := k1.cells
  have K2 : Hid (Below w.heap.size w (chW (w.alloc (.cells #[.int .i64 0, .slice none 0 0] 26)) w.heap.size 0 (.slice none 0 0))) := k2.below ((Below.refl _ w).alloc (Nat.le_refl _) _) (fun x hx => by omega) (by simp)
  have E0 := Lib.hid e0
  have E1 := Lib.hid e1
  clear k1 k2 e0 e1
  by_cases h1 : n < 1
  · clear h
    go_enter Try.func38, Try.ntmps38
    go_wp2_with fail
    have e0 := E0.out
    have e1 := E1.out
    unfold chW at e0 e1
    refine bodyPost_ret (v := .tuple #[.agg #[.int .i64 0, .slice none 0 0], .int .i64 1]) (by simp [results, Try.results38, go_sem]) rfl ⟨rfl, by first | exact K2.out | go_grown⟩
  · have h2 : (5 : Int) < n := by omega
    clear h
    go_enter Try.func38, Try.ntmps38
    go_wp2_with fail
    have e0 := E0.out
    have e1 := E1.out
    unfold chW at e0 e1
    refine bodyPost_ret (v := .tuple #[.agg #[.int .i64 0, .slice none 0 0], .int .i64 1]) (by simp [results, Try.results38, go_sem]) rfl ⟨rfl, by first | exact K2.out | go_grown⟩

end Go.Proofs.Ytiidmiioegdfaaa
