/-
  THE REFERENCE's Without. Of chains of at most a hundred nodes, without at most a hundred.
-/
import Derived.Test.YtomjlhmkmihbeaaChainR
namespace Go.Proofs.Ytomjlhmkmihbeaa
open Go.RowKit

/-- A drawn world's row of one new number. -/
theorem csrc1d (w : World) (x : Int) : Src Try.prog 1 41 (.slice (some ⟨w.heap.size, 0, none⟩) 1 1) 1 (intCells [x]) (w.alloc (.cells #[.int .i64 x] 3)).drew :=
  csrc (B := w.heap.size + 1) ((ints_lit w [x] (show 1 ≤ maxLen by decide)).keep ((Below.refl _ _).drew))

/-- What the reference's Without keeps between two rounds. -/
structure WI (w0 w : World) (ep : Int) (vA : Value) (L : List Int) (a : Option Addr) (c : Nat) : Prop where
  box : ChT w w0.heap.size ep vA
  res : ChT w (w0.heap.size + 1) 0 (.slice none 0 0)
  d : ChT w (w0.heap.size + 2) (ep + 1) (.slice a L.length c)
  row : w.ownsRow (w0.heap.size + 3) 3 1 (.slice a L.length c) L.length (intCells L)
  bel : Below w0.heap.size w0 w
theorem WI.size {w0 w : World} {ep : Int} {vA : Value} {L : List Int} {a : Option Addr} {c : Nat} (h : WI w0 w ep vA L a c) : w0.heap.size + 3 ≤ w.heap.size := by have := h.d.lt; omega
theorem WI.on {w0 w w' : World} {ep : Int} {vA : Value} {L : List Int} {a : Option Addr} {c : Nat} (h : WI w0 w ep vA L a c) (hb : Below w.heap.size w w') : WI w0 w' ep vA L a c :=
  ⟨h.box.keep hb h.box.lt, h.res.keep hb h.res.lt, h.d.keep hb h.d.lt, rowOn h.row hb, h.bel.trans (hb.mono h.bel.size)⟩
/-- One more is appended, and the slice stored. -/
theorem WI.app {w0 w u w2 : World} {ep x : Int} {vA : Value} {L : List Int} {a a2 : Option Addr} {c c2 : Nat} (h : WI w0 w ep vA L a c) (hu : Below w.heap.size w u) (O : w2.ownsRow (w0.heap.size + 3) 3 1 (.slice a2 (L.length + 1) c2) (L.length + 1) (intCells L ++ intCells [x])) (G : u.grownBy w2 (Value.slice a L.length c).ownBlock) :
    Below (w0.heap.size + 3) w w2 ∧ ChT w2 (w0.heap.size + 2) (ep + 1) (.slice a L.length c) ∧ WI w0 (w2.setCell ⟨w0.heap.size + 2, 1, none⟩ (.slice a2 (L.length + 1) c2)) ep vA (L ++ [x]) a2 c2 := by
  have hs := h.size
  have hsu := hu.size
  have hown : ∀ y, Value.ownBlock (.slice a L.length c) = some y → w0.heap.size + 3 ≤ y := fun y hy => (h.row.lt y hy).1
  have hb : Below (w0.heap.size + 3) w w2 := (hu.mono hs).grown G (by omega) (fun y hy => hown y hy)
  have hd : ChT w2 (w0.heap.size + 2) (ep + 1) (.slice a L.length c) := (hb.block _ (by omega)).trans h.d
  have o1 := Only.set (w0.heap.size + 2) 1 w2 (.slice a2 (L.length + 1) c2)
  have hs2 := hb.size
  refine ⟨hb, hd, (o1.block _ (by omega) (by omega)).trans ((hb.block _ (by omega)).trans h.box), (o1.block _ (by omega) (by omega)).trans ((hb.block _ (by omega)).trans h.res), ?_, ?_, o1.below (h.bel.trans (hb.mono (by omega))) (fun x hx => by omega) (by omega)⟩
  · show _ = _
    rw [heap_setCell_same _ _ _ _ _ _ hd, List.length_append]
    rfl
  · rw [List.length_append, ← cells_app]
    exact own_only O o1 (by omega)

end Go.Proofs.Ytomjlhmkmihbeaa
