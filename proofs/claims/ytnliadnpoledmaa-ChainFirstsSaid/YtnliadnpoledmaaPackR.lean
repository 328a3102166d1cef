/-
  BYTES THAT A SLICE HOLDS; bytes.Clone; (*Writer).Bytes; pack.New; and the reference's Num, Text, Yes. No condition but lengths below 2^47.
-/
import Derived.Test.YtnliadnpoledmaaPackW
import Derived.Laws.BytesArg
namespace Go.Proofs.Ytnliadnpoledmaa
open Go.RowKit

/-- The slice value v holds the bytes l, in a block below B. -/
def Byt (w : World) (B : Nat) (v : Value) (l : List UInt8) : Prop :=
  ∃ ao cap, v = .slice ao l.length cap ∧ l.length ≤ cap ∧ cap ≤ maxLen ∧ (ao = none → cap = 0) ∧
    (l ≠ [] → ∃ b off, ao = some ⟨b, off, none⟩ ∧ b < B ∧ ∀ j, j < l.length → w.cell? ⟨b, off + j, none⟩ = some (.int .u8 (l.getD j 0).toNat))

theorem Byt.keep {w w' : World} {B : Nat} {v : Value} {l : List UInt8} (h : Byt w B v l) (hb : Below B w w') : Byt w' B v l := by
  obtain ⟨ao, cap, rfl, h1, h2, h3, h4⟩ := h
  refine ⟨ao, cap, rfl, h1, h2, h3, fun hl => ?_⟩
  obtain ⟨b, off, rfl, hbB, hc⟩ := h4 hl
  exact ⟨b, off, rfl, hbB, fun j hj => (hb.cell (p := ⟨b, off + j, none⟩) hbB).trans (hc j hj)⟩

theorem Byt.mono {w : World} {B B' : Nat} {v : Value} {l : List UInt8} (h : Byt w B v l) (hB : B ≤ B') : Byt w B' v l := by
  obtain ⟨ao, cap, rfl, h1, h2, h3, h4⟩ := h
  refine ⟨ao, cap, rfl, h1, h2, h3, fun hl => ?_⟩
  obtain ⟨b, off, rfl, hbB, hc⟩ := h4 hl
  exact ⟨b, off, rfl, by omega, hc⟩

theorem Byt.none (w : World) (B : Nat) : Byt w B (.slice none 0 0) [] := ⟨_, _, rfl, Nat.le_refl _, Nat.zero_le _, fun _ => rfl, fun h => absurd rfl h⟩

theorem byteCells_get (l : List UInt8) (j : Nat) (hj : j < l.length) : (Lib.byteCells l)[j]? = some (.int .u8 (l.getD j 0).toNat) := by
  simp [Lib.byteCells, hj]

theorem byt_own {w : World} {base B : Nat} {v : Value} {n : Nat} {l : List UInt8} (h : w.ownsRow base 5 1 v n (Lib.byteCells l)) (hB : w.heap.size ≤ B) : Byt w B v l := by
  have hn : l.length = n := by have := h.1; rw [Lib.byteCells_length] at this; omega
  subst hn
  rcases h.2 with ⟨rfl, h0⟩ | ⟨g, cap, cur, rfl, hg, hh, hnc, hcm, hcs, htake⟩
  · have : l = [] := List.eq_nil_of_length_eq_zero h0
    subst this
    exact Byt.none _ _
  · refine ⟨_, _, rfl, hnc, hcm, fun e => by simp at e, fun hl => ⟨g, 0, rfl, by have := lt_of_block hh; omega, fun j hj => ?_⟩⟩
    have := h.cells (g := g) rfl j _ (byteCells_get l j hj)
    rw [Addr.add_lit] at this
    exact this

theorem byt_lit (w : World) (l : List UInt8) (e : TypeId) (fr : Nat × Nat) (n : Nat) (hn : l.length = n) (hm : n ≤ maxLen) : Byt (w.alloc (.cells (Lib.byteCells l).toArray e fr)) (w.heap.size + 1) (.slice (some ⟨w.heap.size, 0, none⟩) n n) l := by
  subst hn
  refine ⟨_, _, rfl, Nat.le_refl _, hm, fun e => by simp at e, fun _ => ⟨_, _, rfl, by omega, fun j hj => ?_⟩⟩
  rw [Nat.zero_add, cell_of_row _ _ _ _ _ _ (heap_alloc_new w _), List.getElem?_toArray]
  exact byteCells_get l j hj

theorem wrt_byt {w : World} {g : Nat} {xs : List UInt8} (h : Wrt w g xs) : ∃ v, w.cell? ⟨g, 0, none⟩ = some v ∧ Byt w w.heap.size v xs := by
  obtain ⟨v, e, hb, hown⟩ := h
  exact ⟨v, cell_of_one hb, byt_own hown (Nat.le_refl _)⟩

/-- A slice value whose address, if there is one, is a block's cell. -/
def Plain (lo : Nat) (v : Value) : Prop := v = .slice none 0 0 ∨ ∃ b off n cap, v = .slice (some ⟨b, off, none⟩) n cap ∧ lo ≤ b

theorem plain_lo {lo b off n cap : Nat} (h : Plain lo (.slice (some ⟨b, off, none⟩) n cap)) : lo ≤ b := by
  rcases h with h | ⟨b', off', n', cap', h, hl⟩
  · simp at h
  · simp only [Value.slice.injEq, Option.some.injEq, Addr.mk.injEq] at h
    rw [h.1.1]; exact hl

theorem plain_mono {lo lo' : Nat} {v : Value} (h : Plain lo v) (hl : lo' ≤ lo) : Plain lo' v := by
  rcases h with h | ⟨b', off', n', cap', h, hb⟩
  · exact .inl h
  · exact .inr ⟨b', off', n', cap', h, by omega⟩

theorem own_plain {w : World} {base : Nat} {e : TypeId} {size : Nat} {v : Value} {n : Nat} {xs : List Value} (h : w.ownsRow base e size v n xs) : Plain base v := by
  rcases h.2 with ⟨rfl, rfl⟩ | ⟨g, cap, cur, rfl, hg, _⟩
  · exact .inl rfl
  · exact .inr ⟨_, _, _, _, rfl, hg⟩

/-- Block h is a reader: 'some l': it is right and l is left, in a block from lo on; 'none': it is wrong. -/
def RdrL (lo : Nat) (w : World) (h : Nat) : Option (List UInt8) → Prop
  | some l => ∃ v e, w.heap[h]? = some (.cells #[v, .bool false] e (0, 0)) ∧ Byt w h v l ∧ Plain lo v
  | none => ∃ v e, w.heap[h]? = some (.cells #[v, .bool true] e (0, 0))

theorem RdrL.lt {lo : Nat} {w : World} {h : Nat} {st : Option (List UInt8)} (hR : RdrL lo w h st) : h < w.heap.size := by
  cases st with
  | some l => obtain ⟨_, _, hb, _⟩ := hR; exact lt_of_block hb
  | none => obtain ⟨_, _, hb⟩ := hR; exact lt_of_block hb

theorem RdrL.mono {lo lo' : Nat} {w : World} {h : Nat} {st : Option (List UInt8)} (hR : RdrL lo w h st) (hl : lo' ≤ lo) : RdrL lo' w h st := by
  cases st with
  | some l => obtain ⟨v, e, hb, h1, h2⟩ := hR; exact ⟨v, e, hb, h1, plain_mono h2 hl⟩
  | none => exact hR

theorem RdrL.keep {lo : Nat} {w w' : World} {h : Nat} {st : Option (List UInt8)} (hR : RdrL lo w h st) (hb : Below (h + 1) w w') : RdrL lo w' h st := by
  cases st with
  | some l => obtain ⟨v, e, h1, h2⟩ := hR; exact ⟨v, e, (hb.block h (by omega)).trans h1, h2.1.keep (hb.mono (by omega)), h2.2⟩
  | none => obtain ⟨v, e, h1⟩ := hR; exact ⟨v, e, (hb.block h (by omega)).trans h1⟩

theorem RdrL.below {lo : Nat} {w w' : World} {h : Nat} {st : Option (List UInt8)} (hR : RdrL lo w h st) (hb : Below w.heap.size w w') : RdrL lo w' h st :=
  hR.keep (hb.mono hR.lt)

/-- A reader stands while another block below its bytes, or above it, is written. -/
theorem RdrL.other {lo : Nat} {w w' : World} {h k : Nat} {st : Option (List UInt8)} (hR : RdrL lo w h st) (hg : w.grownBy w' (some k)) (hk : k ≠ h) (hlo : k < lo ∨ h < k) : RdrL lo w' h st := by
  have hlt := hR.lt
  have hh : w'.heap[h]? = w.heap[h]? := hg.block h hlt (fun e => hk (Option.some.inj e).symm)
  cases st with
  | some l =>
    obtain ⟨v, e, h1, ⟨ao, cap, rfl, g1, g2, g3, g4⟩, hp⟩ := hR
    refine ⟨_, e, hh.trans h1, ⟨ao, cap, rfl, g1, g2, g3, fun hl => ?_⟩, hp⟩
    obtain ⟨b, off, rfl, hb, hc⟩ := g4 hl
    have hbk := plain_lo hp
    exact ⟨b, off, rfl, hb, fun j hj => (World.cell?_of_block (a := ⟨b, off + j, none⟩) (hg.block b (by omega) (fun e => by have := Option.some.inj e; omega))).trans (hc j hj)⟩
  | none => obtain ⟨v, e, h1⟩ := hR; exact ⟨v, e, hh.trans h1⟩

/-! ### the reference's Num, Text, Yes -/

end Go.Proofs.Ytnliadnpoledmaa
