/-
  THE REFERENCE's TABLE: Put. Of at most five thousand keys.
-/
import Derived.Test.YtkieifkbkmdgdaaBookD
namespace Go.Proofs.Ytkieifkbkmdgdaa
open Go.RowKit

theorem inew1 (w : World) (o1 o2 : Obj) : ((w.alloc o1).alloc o2).drew.heap[w.heap.size + 1]? = some o2 := by
  have := heap_alloc_new (w.alloc o1) o2
  rw [show (w.alloc o1).heap.size = w.heap.size + 1 by simp] at this
  exact this
theorem iold1 (w : World) (o1 o2 : Obj) : ((w.alloc o1).alloc o2).drew.heap[w.heap.size]? = some o1 := by
  have h := heap_alloc_new w o1
  have hl := lt_of_block h
  exact (((Below.refl (w.alloc o1).heap.size _).alloc (Nat.le_refl _) o2).block _ hl).trans h
theorem isize2 (w : World) (o1 o2 : Obj) : ((w.alloc o1).alloc o2).drew.heap.size = w.heap.size + 2 := by simp
theorem put_src {W : World} {base m c i : Nat} {a : Option Addr} {X : List Int} (h : W.ownsRow base 3 1 (.slice a m c) m (intCells X)) (hi : i ≤ m) (u : World) (hu : Below W.heap.size W u) : Src Try.prog 1 26 (.slice a i c) i (intCells (X.take i)) u := by
  rcases h.2 with ⟨e, rfl⟩ | ⟨g, cap, cur, e, _⟩
  · cases e
    obtain rfl : i = 0 := by omega
    simpa [intCells] using Src.ofNil _ Try.underlying26 0
  · cases e
    exact row_src h hi u hu
theorem put_src2 {W : World} {base m c i : Nat} {a : Option Addr} {X : List Int} (h : W.ownsRow base 3 1 (.slice a m c) m (intCells X)) (hi : i ≤ m) (u : World) (hu : Below W.heap.size W u) : Src Try.prog 1 26 (.slice (if c = i then a else Option.map (fun x => x.add i) a) (m - i) (c - i)) (m - i) (intCells (X.drop i)) u := by
  rcases h.2 with ⟨e, rfl⟩ | ⟨g, cap, cur, e, hg, hh, hc, _⟩
  · cases e
    obtain rfl : i = 0 := by omega
    have hX : X = [] := by have := h.1; simpa [intCells] using this
    subst hX
    simpa [intCells] using Src.ofNil _ Try.underlying26 0
  · cases e
    by_cases hci : c = i
    · rw [if_pos hci]
      exact row_src2 h hi (.inr (by omega)) u hu
    · rw [if_neg hci]
      have := row_src2 h hi (.inl rfl) u hu
      rw [show (Option.map (fun x => Addr.add x i) (some (⟨g, 0, none⟩ : Addr))) = some ⟨g, i, none⟩ by simp [Addr.add]; omega]
      exact this
theorem one_src {u : World} {g : Nat} (x : Int) (h : u.heap[g]? = some (.cells #[.int .i64 x] 3 (0, 0))) : Src Try.prog 1 26 (.slice (some ⟨g, 0, none⟩) 1 1) 1 (intCells [x]) u := by
  refine src_cells6 rfl fun j hj => ?_
  obtain rfl : j = 0 := by omega
  simp [World.cell?, h]

/-- What follows in a sequence. -/
def tailOf : Code → Code
  | .seq _ r => r
  | c => c
/-- What follows when the row of the keys has been made anew. -/
def PutRest (n R : Nat) (L : List (Int × Int)) (key v : Int) (w : World) : Prop :=
  ∀ (i m : Nat) (W1 wd : World) (ak av : Option Addr) (ck cv : Nat) (u10 u11 u12 u13 u14 u15 u16 u17 u18 u19 u20 u21 u22 u23 u24 u25 u26 u27 u28 u29 u30 u31 u32 u33 u34 u35 u36 u37 u38 u39 u40 u41 u42 u43 u44 u45 u46 u47 u48 u49 u50 u51 u52 u53 u54 u55 u56 u57 u58 u59 u60 u61 u62 u63 u64 u65 u66 u67 u68 u69 u70 u71 u72 u73 u74 u75 u76 u77 u78 u79 u80 u81 u82 u83 u84 u85 u86 u87 : Value), Hid (Only (fun _ => False) w W1) → Hid (m = L.length) → m ≤ 5000 → Hid (i ≤ m) → (i : Int) ≤ (m : Int) → (i : Int) ≤ (cv : Int) → Hid (w.heap[R]? = some (.cells #[.slice ak m ck, .slice av m cv] 28 (0, 0))) →
    Hid (w.ownsRow n 3 1 (.slice av m cv) m (intCells (valsL L))) → Hid (putL key v L = L.take i ++ (key, v) :: L.drop i) → RowSet W1 R 0 ((keysL L).take i ++ [key] ++ (keysL L).drop i) (m + 1) wd →
    Code.wp Try.prog (tailOf (tailOf (tailOf (tailOf (Try.f9.body.getD Code.skip))))) (bodyPost Try.prog Try.f9 fun e w' => e = .returned (.tuple #[.int .i64 0, .bool false]) ∧ RB n w' R (putL key v L) ∧ Only (RS n w) w w') { tmps := List.toArray (.pointer (some ⟨R, 0, none⟩) :: .int .i64 key :: .int .i64 v :: undef :: undef :: undef :: .int .i64 0 :: .bool false :: .int .i64 i :: undef :: u10 :: u11 :: u12 :: u13 :: u14 :: u15 :: u16 :: u17 :: u18 :: u19 :: u20 :: u21 :: u22 :: u23 :: u24 :: u25 :: u26 :: u27 :: u28 :: u29 :: u30 :: u31 :: u32 :: u33 :: u34 :: u35 :: u36 :: u37 :: u38 :: u39 :: u40 :: u41 :: u42 :: u43 :: u44 :: u45 :: u46 :: u47 :: u48 :: u49 :: u50 :: u51 :: u52 :: u53 :: u54 :: u55 :: u56 :: u57 :: u58 :: u59 :: u60 :: u61 :: u62 :: u63 :: u64 :: u65 :: u66 :: u67 :: u68 :: u69 :: u70 :: u71 :: u72 :: u73 :: u74 :: u75 :: u76 :: u77 :: u78 :: u79 :: u80 :: u81 :: u82 :: u83 :: u84 :: u85 :: u86 :: u87 :: []), defers := [] } wd
end Go.Proofs.Ytkieifkbkmdgdaa
