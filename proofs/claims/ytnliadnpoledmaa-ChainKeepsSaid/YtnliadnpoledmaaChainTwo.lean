/-
  TWO CHAINS IN THEIR BLOCKS, AS A LAW HAS THEM.
-/
import Derived.Test.YtnliadnpoledmaaChainE
namespace Go.Proofs.Ytnliadnpoledmaa
open Go.RowKit

structure P2 (w v : World) (ea : Int) (va : Value) (A : List Int) (eb : Int) (vb : Value) (L : List Int) : Prop where
  a : ChB v w.heap.size ea va
  b : ChB v (w.heap.size + 1) eb vb
  ia : Ints v v.heap.size va A
  ib : Ints v v.heap.size vb L
  bel : Below w.heap.size w v
theorem P2.step {w v v' : World} {ea : Int} {va : Value} {A : List Int} {eb : Int} {vb : Value} {L : List Int} (t : P2 w v ea va A eb vb L) (hb : Below v.heap.size v v') : P2 w v' ea va A eb vb L :=
  ⟨t.a.keep hb t.a.lt, t.b.keep hb t.b.lt, (t.ia.keep hb).mono hb.size, (t.ib.keep hb).mono hb.size, t.bel.trans (hb.mono t.bel.size)⟩
theorem P2.start {w : World} {ea : Int} {va : Value} {A : List Int} {eb : Int} {vb : Value} {L : List Int} (ha : Ints w w.heap.size va A) (hb : Ints w w.heap.size vb L) :
    P2 w ((w.alloc (.cells #[.int .i64 ea, va] 25)).alloc (.cells #[.int .i64 eb, vb] 25)) ea va A eb vb L := by
  have h : Below w.heap.size w ((w.alloc (.cells #[.int .i64 ea, va] 25)).alloc (.cells #[.int .i64 eb, vb] 25)) := ((Below.refl _ w).alloc (Nat.le_refl _) _).alloc (by simp) _
  refine ⟨(ChB.fresh w _ _ _).keep ((Below.refl _ _).alloc (Nat.le_refl _) _) (by simp), ?_, (ha.keep h).mono (by simp; omega), (hb.keep h).mono (by simp; omega), h⟩
  have := ChB.fresh (w.alloc (.cells #[.int .i64 ea, va] 25)) eb vb 25
  rwa [World.size_alloc] at this
theorem P2.cells {w v : World} {ea : Int} {va : Value} {A : List Int} {eb : Int} {vb : Value} {L : List Int} (t : P2 w v ea va A eb vb L) :
    (v.cell? ⟨w.heap.size, 0, none⟩ = some (.int .i64 ea) ∧ v.cell? ⟨w.heap.size, 1, none⟩ = some va) ∧ v.cell? ⟨w.heap.size + 1, 0, none⟩ = some (.int .i64 eb) ∧ v.cell? ⟨w.heap.size + 1, 1, none⟩ = some vb := ⟨t.a.cells, t.b.cells.1, t.b.cells.2⟩
end Go.Proofs.Ytnliadnpoledmaa
