/-
  A DISK IN MEMORY: its block and its row; New, Append, Sync, Len, Synced, what is copied; of nil. No condition but that lengths stay below 2^47.
-/
import Derived.Test.YtpmigpgkicacpaaOnly
import Derived.Test.YtpmigpgkicacpaaPackR
import Derived.Laws.CopyOwn
import Derived.Deep.QuietTactic
import Derived.BigQuiet
import Derived.Deep.RegionHeld3
namespace Go.Proofs.Ytpmigpgkicacpaa
open Go.RowKit

theorem ownsRow_on {w w' : World} {base : Nat} {e : TypeId} {size : Nat} {v : Value} {n : Nat} {xs : List Value} (h : w.ownsRow base e size v n xs) (hk : ∀ b, v.ownBlock = some b → w'.heap[b]? = w.heap[b]?) : w'.ownsRow base e size v n xs := by
  refine ⟨h.1, ?_⟩
  rcases h.2 with h0 | ⟨g, cap, cur, rfl, hr, hh, rest⟩
  · exact .inl h0
  · exact .inr ⟨g, cap, cur, rfl, hr, (hk g rfl).trans hh, rest⟩
theorem ownsRow_low {w : World} {base base' : Nat} {e : TypeId} {size : Nat} {v : Value} {n : Nat} {xs : List Value} (h : w.ownsRow base e size v n xs) (hb : base' ≤ base) : w.ownsRow base' e size v n xs := by
  refine ⟨h.1, ?_⟩
  rcases h.2 with h0 | ⟨g, cap, cur, rfl, hr, rest⟩
  · exact .inl h0
  · exact .inr ⟨g, cap, cur, rfl, by omega, rest⟩

/-- Block g is a disk that holds the bytes xs, the first k of them synced; v is its row; all of it lies from block n on. -/
structure Dsk (w : World) (n g : Nat) (v : Value) (xs : List UInt8) (k : Nat) : Prop where
  blk : w.heap[g]? = some (.cells #[v, .int .i64 k] 58 (0, 0))
  row : w.ownsRow n 5 1 v xs.length (Lib.byteCells xs)
  ne : ∀ b, v.ownBlock = some b → b ≠ g
  low : n ≤ g
  le : k ≤ xs.length
/-- The blocks of a disk. -/
def dblks (g : Nat) (v : Value) (x : Nat) : Prop := x = g ∨ v.ownBlock = some x

section
variable {w w' : World} {n g : Nat} {v : Value} {xs : List UInt8} {k : Nat}
theorem Dsk.cells (H : Dsk w n g v xs k) : w.cell? ⟨g, 0, none⟩ = some v ∧ w.cell? ⟨g, 1, none⟩ = some (.int .i64 k) ∧ w.frozen? ⟨g, 0, none⟩ = false ∧ w.frozen? ⟨g, 1, none⟩ = false := by
  have H' := H.blk
  refine ⟨?_, ?_, ?_, ?_⟩ <;> simp [World.cell?, World.frozen?, H']
theorem Dsk.lt (H : Dsk w n g v xs k) : g < w.heap.size := lt_of_block H.blk
theorem Dsk.rowlt (H : Dsk w n g v xs k) (b : Nat) (hb : v.ownBlock = some b) : n ≤ b ∧ b < w.heap.size := H.row.lt b hb
theorem Dsk.all (H : Dsk w n g v xs k) : ∀ x, dblks g v x → n ≤ x ∧ x < w.heap.size := by
  rintro x (rfl | hx)
  · exact ⟨H.low, H.lt⟩
  · exact H.rowlt x hx
theorem Dsk.keep {S : Nat → Prop} (H : Dsk w n g v xs k) (ho : Only S w w') (hs : ∀ x, dblks g v x → ¬ S x) : Dsk w' n g v xs k :=
  ⟨(ho.block g H.lt (hs g (.inl rfl))).trans H.blk, ownsRow_on H.row fun b hb => ho.block b (H.rowlt b hb).2 (hs b (.inr hb)), H.ne, H.low, H.le⟩
theorem Dsk.on (H : Dsk w n g v xs k) (hb : Below w.heap.size w w') : Dsk w' n g v xs k := H.keep (S := fun _ => False) (.of hb) fun _ _ h => h
theorem Dsk.drewN (H : Dsk w n g v xs k) (m : Nat) : Dsk (w.drewN m) n g v xs k := H.keep (S := fun _ => False) (.drewN _ _ _) fun _ _ h => h
theorem Dsk.byt (H : Dsk w n g v xs k) : Byt w w.heap.size v xs := byt_own H.row (Nat.le_refl _)
theorem Dsk.shape (H : Dsk w n g v xs k) : ∃ a c, v = .slice a xs.length c ∧ ((a = none ∧ c = 0 ∧ xs = []) ∨ ∃ b, a = some ⟨b, 0, none⟩ ∧ xs.length ≤ c) := by
  rcases H.row.2 with ⟨rfl, h0⟩ | ⟨b, cap, cur, rfl, hb, hh, hnc, _⟩
  · have : xs = [] := List.eq_nil_of_length_eq_zero h0
    subst this
    exact ⟨_, _, rfl, .inl ⟨rfl, rfl, rfl⟩⟩
  · exact ⟨_, _, rfl, .inr ⟨b, rfl, hnc⟩⟩
theorem Dsk.setK (H : Dsk w n g v xs k) (m : Nat) (hm : m ≤ xs.length) : Dsk (w.setCell ⟨g, 1, none⟩ (.int .i64 m)) n g v xs m := by
  refine ⟨?_, ownsRow_on H.row fun b hb => (Only.set g 1 w _).block b (H.rowlt b hb).2 (H.ne b hb), H.ne, H.low, hm⟩
  rw [heap_setCell_same _ _ _ _ _ _ H.blk]; rfl
end

/-- A disk has been turned: it holds the bytes xs, the first k of them synced; no block of others has turned. -/
def DR (n g : Nat) (v : Value) (xs : List UInt8) (k : Nat) (w w' : World) : Prop :=
  ∃ v', Dsk w' n g v' xs k ∧ (∀ b, v'.ownBlock = some b → v.ownBlock = some b ∨ w.heap.size ≤ b) ∧ Only (dblks g v) w w'
theorem DR.same {w w' : World} {n g : Nat} {v : Value} {xs : List UInt8} {k : Nat} (H : Dsk w' n g v xs k) (h : Only (dblks g v) w w') : DR n g v xs k w w' := ⟨v, H, fun _ hb => .inl hb, h⟩

set_option maxHeartbeats 400000 in
theorem dnew_any (w : World) : Calls Try.prog 14 #[] w fun e w' => e = .returned (.pointer (some ⟨w.heap.size, 0, none⟩)) ∧ Dsk w' w.heap.size w.heap.size (.slice none 0 0) [] 0 ∧ Below w.heap.size w w' := by
  go_enter Try.func14, Try.ntmps14
  go_wp2
  go_returns
  exact ⟨rfl, ⟨heap_alloc_new w _, World.ownsRow_nil _ _ _ _, fun b hb => by simp [Value.ownBlock] at hb, Nat.le_refl _, Nat.le_refl _⟩, (Below.refl _ _).alloc (Nat.le_refl _) _⟩

set_option maxHeartbeats 400000 in
theorem dlen_any {w : World} {n g : Nat} {v : Value} {xs : List UInt8} {k : Nat} (H : Dsk w n g v xs k) : Calls Try.prog 20 #[.pointer (some ⟨g, 0, none⟩)] w fun e w' => e = .returned (.int .i64 xs.length) ∧ w = w' := by
  obtain ⟨c0, c1, z0, z1⟩ := H.cells
  obtain ⟨a, c, rfl, _⟩ := H.shape
  clear H
  go_enter Try.func20, Try.ntmps20
  go_wp2
  go_returns
  exact ⟨rfl, rfl⟩
set_option maxHeartbeats 400000 in
theorem dsynced_any {w : World} {n g : Nat} {v : Value} {xs : List UInt8} {k : Nat} (H : Dsk w n g v xs k) : Calls Try.prog 21 #[.pointer (some ⟨g, 0, none⟩)] w fun e w' => e = .returned (.int .i64 k) ∧ w = w' := by
  obtain ⟨c0, c1, z0, z1⟩ := H.cells
  clear H
  go_enter Try.func21, Try.ntmps21
  go_wp2
  go_returns
  exact ⟨rfl, rfl⟩
set_option maxHeartbeats 400000 in
theorem dsync_any {w : World} {n g : Nat} {v : Value} {xs : List UInt8} {k : Nat} (H : Dsk w n g v xs k) : Calls Try.prog 16 #[.pointer (some ⟨g, 0, none⟩)] w fun e w' => e = .returned (.tuple #[]) ∧ DR n g v xs xs.length w w' ∧ Only (· = g) w w' := by
  obtain ⟨c0, c1, z0, z1⟩ := H.cells
  have HK := Lib.hid (H.setK xs.length (Nat.le_refl _))
  obtain ⟨a, c, rfl, _⟩ := H.shape
  clear H
  go_enter Try.func16, Try.ntmps16
  go_wp2
  go_end0
  exact ⟨rfl, .same HK.out ((Only.set g 1 w _).mono fun x _ hx => .inl hx), Only.set g 1 w _⟩

/-! ### of nil -/
set_option maxHeartbeats 400000 in
theorem dlen_nil (w : World) : Calls Try.prog 20 #[.pointer none] w fun e w' => e = .returned (.int .i64 0) ∧ w = w' := by
  go_enter Try.func20, Try.ntmps20
  go_wp2
  go_returns
  exact ⟨rfl, rfl⟩
set_option maxHeartbeats 400000 in
theorem dsynced_nil (w : World) : Calls Try.prog 21 #[.pointer none] w fun e w' => e = .returned (.int .i64 0) ∧ w = w' := by
  go_enter Try.func21, Try.ntmps21
  go_wp2
  go_returns
  exact ⟨rfl, rfl⟩
set_option maxHeartbeats 400000 in
theorem dsync_nil (w : World) : Calls Try.prog 16 #[.pointer none] w fun e w' => e = .returned (.tuple #[]) ∧ w = w' := by
  go_enter Try.func16, Try.ntmps16
  go_wp2
  go_returns
  exact ⟨rfl, rfl⟩
set_option maxHeartbeats 400000 in
theorem dappend_nil (a : Option Addr) (l c : Nat) (w : World) : Calls Try.prog 28 #[.pointer none, .slice a l c] w fun e w' => e = .returned (.tuple #[]) ∧ w = w' := by
  go_enter Try.func28, Try.ntmps28
  go_wp2
  go_returns
  exact ⟨rfl, rfl⟩
set_option maxHeartbeats 400000 in
theorem dcrash_nil (x : Int) (w : World) : Calls Try.prog 17 #[.pointer none, .int .i64 x] w fun e w' => e = .returned (.tuple #[]) ∧ w = w' := by
  go_enter Try.func17, Try.ntmps17
  go_wp2
  go_returns
  exact ⟨rfl, rfl⟩
set_option maxHeartbeats 400000 in
theorem dbytes_nil (w : World) : Calls Try.prog 18 #[.pointer none] w fun e w' => e = .returned (.slice none 0 0) ∧ w = w' := by
  go_enter Try.func18, Try.ntmps18
  go_wp2
  go_returns
  exact ⟨rfl, rfl⟩
set_option maxHeartbeats 400000 in
theorem dcut_nil (x : Int) (w : World) : Calls Try.prog 31 #[.pointer none, .int .i64 x] w fun e w' => e = .returned (.int .i64 6) ∧ w = w' := by
  go_enter Try.func31, Try.ntmps31
  go_wp2
  go_returns
  exact ⟨rfl, rfl⟩
end Go.Proofs.Ytpmigpgkicacpaa
