/-
  THE PROGRAM's PACK: writer, reader, numbers. Merged by gen/cat.sh.
-/
import Derived.Test.YtpcbpimlakehcaaPackBase
import Derived.Laws.BytesArg
import Derived.Lib.Varint
import Derived.Lib.VarintMem
import Derived.Lib.VarintBits
import GoSem.Claim
import Derived.Lib.ConvBytes
/-! ## PackW -/
/-
  WHAT A WRITER DOES: Num, Text, Yes, Bytes behind any calls, and the reference's Num, Text, Yes; no condition but that the bytes stay below 2^47.
-/
namespace Go.Proofs.Ytpcbpimlakehcaa
open Go.RowKit

theorem src_one (w : World) (v : Value) (e : TypeId) (h1 : v.oneCell' = true) : Src Try.prog 1 126 (.slice (some ⟨w.heap.size, 0, none⟩) 1 1) 1 [v] (w.alloc (.cells #[v] e)) :=
  Src.ofSlice _ Try.underlying126 ⟨w.heap.size, 0, none⟩ 1 1 [v] rfl
    (by intro j u hj; match j, hj with | 0, hj => simp at hj; subst hj; simp [Addr.add])
    (by intro u hu; simp at hu; subst hu; exact h1)

/-- What an append onto the writer's row leaves of the writer's own block. -/
theorem wrt_grown {w0 w1 : World} {g n : Nat} {v0 : Value} {e0 : TypeId} {xs : List Value} (hb : w0.heap[g]? = some (.cells #[v0] e0 (0, 0))) (hown : w0.ownsRow (g + 1) 5 1 v0 n xs) (hg : w0.grownBy w1 v0.ownBlock) :
    w1.heap[g]? = some (.cells #[v0] e0 (0, 0)) ∧ Below g w0 w1 :=
  ⟨(hg.block g (lt_of_block hb) (fun e => by have := (hown.lt g e.symm).1; omega)).trans hb,
   (Below.refl _ _).grown hg (Nat.le_of_lt (lt_of_block hb)) (fun k hk => by have := (hown.lt k hk).1; omega)⟩

theorem or128_y (y : Nat) : bits .or .u8 ((y : Int) % 256) 128 = ((y % 128 + 128 : Nat) : Int) := by
  rw [Lib.u8_or128_any _ (by omega) (by omega)]
  omega

theorem uvarint_bit (b : Bool) : Lib.uvarint (if b then 1 else 0) = [if b then 1 else 0] := by
  cases b <;> (rw [Lib.uvarint_small (by decide)]; rfl)


/-! ### a writer that is none -/
end Go.Proofs.Ytpcbpimlakehcaa

/-! ## PackR -/
/-
  BYTES THAT A SLICE HOLDS; bytes.Clone; (*Writer).Bytes; pack.New; and the reference's Num, Text, Yes. No condition but lengths below 2^47.
-/
namespace Go.Proofs.Ytpcbpimlakehcaa
open Go.RowKit

/-- The slice value v holds the bytes l, in a block below B. -/
def Byt (w : World) (B : Nat) (v : Value) (l : List UInt8) : Prop :=
  ∃ ao cap, v = .slice ao l.length cap ∧ l.length ≤ cap ∧ cap ≤ maxLen ∧ (ao = none → cap = 0) ∧
    (l ≠ [] → ∃ b off, ao = some ⟨b, off, none⟩ ∧ b < B ∧ ∀ j, j < l.length → w.cell? ⟨b, off + j, none⟩ = some (.int .u8 (l.getD j 0).toNat))

theorem Byt.keep {w w' : World} {B : Nat} {v : Value} {l : List UInt8} (h : Byt w B v l) (hb : Below B w w') : Byt w' B v l := by
  obtain ⟨ao, cap, rfl, h1, h2, h3, h4⟩ := h
  refine ⟨ao, cap, rfl, h1, h2, h3, fun hl => ?_⟩
  obtain ⟨b, off, rfl, hbB, hc⟩ := h4 hl
  exact ⟨b, off, rfl, hbB, fun j hj => (hb.cell (p := ⟨b, off + j, none⟩) hbB).trans (hc j hj)⟩

theorem Byt.mono {w : World} {B B' : Nat} {v : Value} {l : List UInt8} (h : Byt w B v l) (hB : B ≤ B') : Byt w B' v l := by
  obtain ⟨ao, cap, rfl, h1, h2, h3, h4⟩ := h
  refine ⟨ao, cap, rfl, h1, h2, h3, fun hl => ?_⟩
  obtain ⟨b, off, rfl, hbB, hc⟩ := h4 hl
  exact ⟨b, off, rfl, by omega, hc⟩

theorem Byt.none (w : World) (B : Nat) : Byt w B (.slice none 0 0) [] := ⟨_, _, rfl, Nat.le_refl _, Nat.zero_le _, fun _ => rfl, fun h => absurd rfl h⟩

theorem byteCells_get (l : List UInt8) (j : Nat) (hj : j < l.length) : (Lib.byteCells l)[j]? = some (.int .u8 (l.getD j 0).toNat) := by
  simp [Lib.byteCells, hj]

theorem byt_own {w : World} {base B : Nat} {v : Value} {n : Nat} {l : List UInt8} (h : w.ownsRow base 5 1 v n (Lib.byteCells l)) (hB : w.heap.size ≤ B) : Byt w B v l := by
  have hn : l.length = n := by have := h.1; rw [Lib.byteCells_length] at this; omega
  subst hn
  rcases h.2 with ⟨rfl, h0⟩ | ⟨g, cap, cur, rfl, hg, hh, hnc, hcm, hcs, htake⟩
  · have : l = [] := List.eq_nil_of_length_eq_zero h0
    subst this
    exact Byt.none _ _
  · refine ⟨_, _, rfl, hnc, hcm, fun e => by simp at e, fun hl => ⟨g, 0, rfl, by have := lt_of_block hh; omega, fun j hj => ?_⟩⟩
    have := h.cells (g := g) rfl j _ (byteCells_get l j hj)
    rw [Addr.add_lit] at this
    exact this

theorem byt_lit (w : World) (l : List UInt8) (e : TypeId) (fr : Nat × Nat) (n : Nat) (hn : l.length = n) (hm : n ≤ maxLen) : Byt (w.alloc (.cells (Lib.byteCells l).toArray e fr)) (w.heap.size + 1) (.slice (some ⟨w.heap.size, 0, none⟩) n n) l := by
  subst hn
  refine ⟨_, _, rfl, Nat.le_refl _, hm, fun e => by simp at e, fun _ => ⟨_, _, rfl, by omega, fun j hj => ?_⟩⟩
  rw [Nat.zero_add, cell_of_row _ _ _ _ _ _ (heap_alloc_new w _), List.getElem?_toArray]
  exact byteCells_get l j hj

/-- What a slice of bytes gives an append. -/
theorem src_byt {w : World} {b off cap : Nat} {l : List UInt8} (hc : ∀ j, j < l.length → w.cell? ⟨b, off + j, none⟩ = some (.int .u8 (l.getD j 0).toNat)) :
    Src Try.prog 1 126 (.slice (some ⟨b, off, none⟩) l.length cap) l.length (Lib.byteCells l) w :=
  Src.ofSlice _ Try.underlying126 ⟨b, off, none⟩ l.length cap (Lib.byteCells l) (by rw [Lib.byteCells_length]; omega)
    (by
      intro j u hu
      have hj : j < l.length := by have := (List.getElem?_eq_some_iff.1 hu).1; rwa [Lib.byteCells_length] at this
      rw [byteCells_get l j hj] at hu
      rw [Addr.add_lit, hc j hj]
      exact hu)
    (by intro u hu; obtain ⟨_, _, rfl⟩ := List.mem_map.1 hu; rfl)

theorem src_empty (w : World) (a : Addr) (cap : Nat) : Src Try.prog 1 126 (.slice (some a) 0 cap) 0 [] w :=
  Src.ofSlice _ Try.underlying126 a 0 cap [] rfl (by intro j u hj; simp at hj) (by intro u hu; cases hu)

theorem byt_src {w : World} {B : Nat} {a : Addr} {cap n : Nat} {l : List UInt8} (h : Byt w B (.slice (some a) n cap) l) : Src Try.prog 1 126 (.slice (some a) n cap) n (Lib.byteCells l) w := by
  obtain ⟨ao, cap', he, h1, h2, h3, h4⟩ := h
  simp only [Value.slice.injEq] at he
  obtain ⟨rfl, rfl, rfl⟩ := he
  by_cases hl : l = []
  · subst hl; exact src_empty w a cap
  · obtain ⟨b, off, he, _, hc⟩ := h4 hl
    obtain rfl := Option.some.inj he
    exact src_byt hc

theorem wrt_byt {w : World} {g : Nat} {xs : List UInt8} (h : Wrt w g xs) : ∃ v, w.cell? ⟨g, 0, none⟩ = some v ∧ Byt w w.heap.size v xs := by
  obtain ⟨v, e, hb, hown⟩ := h
  exact ⟨v, cell_of_one hb, byt_own hown (Nat.le_refl _)⟩

/-- A slice value whose address, if there is one, is a block's cell. -/
def Plain (lo : Nat) (v : Value) : Prop := v = .slice none 0 0 ∨ ∃ b off n cap, v = .slice (some ⟨b, off, none⟩) n cap ∧ lo ≤ b

theorem plain_lo {lo b off n cap : Nat} (h : Plain lo (.slice (some ⟨b, off, none⟩) n cap)) : lo ≤ b := by
  rcases h with h | ⟨b', off', n', cap', h, hl⟩
  · simp at h
  · simp only [Value.slice.injEq, Option.some.injEq, Addr.mk.injEq] at h
    rw [h.1.1]; exact hl

theorem plain_mono {lo lo' : Nat} {v : Value} (h : Plain lo v) (hl : lo' ≤ lo) : Plain lo' v := by
  rcases h with h | ⟨b', off', n', cap', h, hb⟩
  · exact .inl h
  · exact .inr ⟨b', off', n', cap', h, by omega⟩

theorem own_plain {w : World} {base : Nat} {e : TypeId} {size : Nat} {v : Value} {n : Nat} {xs : List Value} (h : w.ownsRow base e size v n xs) : Plain base v := by
  rcases h.2 with ⟨rfl, rfl⟩ | ⟨g, cap, cur, rfl, hg, _⟩
  · exact .inl rfl
  · exact .inr ⟨_, _, _, _, rfl, hg⟩

/-- Block h is a reader: 'some l': it is right and l is left, in a block from lo on; 'none': it is wrong. -/
def RdrL (lo : Nat) (w : World) (h : Nat) : Option (List UInt8) → Prop
  | some l => ∃ v e, w.heap[h]? = some (.cells #[v, .bool false] e (0, 0)) ∧ Byt w h v l ∧ Plain lo v
  | none => ∃ v e, w.heap[h]? = some (.cells #[v, .bool true] e (0, 0))

theorem RdrL.lt {lo : Nat} {w : World} {h : Nat} {st : Option (List UInt8)} (hR : RdrL lo w h st) : h < w.heap.size := by
  cases st with
  | some l => obtain ⟨_, _, hb, _⟩ := hR; exact lt_of_block hb
  | none => obtain ⟨_, _, hb⟩ := hR; exact lt_of_block hb

theorem RdrL.mono {lo lo' : Nat} {w : World} {h : Nat} {st : Option (List UInt8)} (hR : RdrL lo w h st) (hl : lo' ≤ lo) : RdrL lo' w h st := by
  cases st with
  | some l => obtain ⟨v, e, hb, h1, h2⟩ := hR; exact ⟨v, e, hb, h1, plain_mono h2 hl⟩
  | none => exact hR

theorem RdrL.keep {lo : Nat} {w w' : World} {h : Nat} {st : Option (List UInt8)} (hR : RdrL lo w h st) (hb : Below (h + 1) w w') : RdrL lo w' h st := by
  cases st with
  | some l => obtain ⟨v, e, h1, h2⟩ := hR; exact ⟨v, e, (hb.block h (by omega)).trans h1, h2.1.keep (hb.mono (by omega)), h2.2⟩
  | none => obtain ⟨v, e, h1⟩ := hR; exact ⟨v, e, (hb.block h (by omega)).trans h1⟩

theorem RdrL.below {lo : Nat} {w w' : World} {h : Nat} {st : Option (List UInt8)} (hR : RdrL lo w h st) (hb : Below w.heap.size w w') : RdrL lo w' h st :=
  hR.keep (hb.mono hR.lt)

/-- A reader stands while another block below its bytes, or above it, is written. -/
theorem RdrL.other {lo : Nat} {w w' : World} {h k : Nat} {st : Option (List UInt8)} (hR : RdrL lo w h st) (hg : w.grownBy w' (some k)) (hk : k ≠ h) (hlo : k < lo ∨ h < k) : RdrL lo w' h st := by
  have hlt := hR.lt
  have hh : w'.heap[h]? = w.heap[h]? := hg.block h hlt (fun e => hk (Option.some.inj e).symm)
  cases st with
  | some l =>
    obtain ⟨v, e, h1, ⟨ao, cap, rfl, g1, g2, g3, g4⟩, hp⟩ := hR
    refine ⟨_, e, hh.trans h1, ⟨ao, cap, rfl, g1, g2, g3, fun hl => ?_⟩, hp⟩
    obtain ⟨b, off, rfl, hb, hc⟩ := g4 hl
    have hbk := plain_lo hp
    exact ⟨b, off, rfl, hb, fun j hj => (World.cell?_of_block (a := ⟨b, off + j, none⟩) (hg.block b (by omega) (fun e => by have := Option.some.inj e; omega))).trans (hc j hj)⟩
  | none => obtain ⟨v, e, h1⟩ := hR; exact ⟨v, e, hh.trans h1⟩

/-! ### the reference's Num, Text, Yes -/

set_option maxRecDepth 100000 in
theorem run_conv_byt {w : World} {B : Nat} {v : Value} {l : List UInt8} (h : Byt w B v l) : (convert 126 9 v).run Try.prog w = .ok (.string ⟨l.toArray⟩) w := by
  obtain ⟨ao, cap, rfl, h1, h2, h3, h4⟩ := h
  cases ao with
  | none =>
    have hl : l = [] := List.eq_nil_of_length_eq_zero (by have := h3 rfl; omega)
    subst hl
    exact run_convert_bytes_nil w _ _ Try.underlying126 Try.underlying5 _ _ _ Try.underlying9
  | some a =>
    by_cases hl : l = []
    · subst hl
      rw [run_convert_bytes_string w _ _ _ _ _ _ Try.underlying126 Try.underlying5 Try.underlying9]
      rw [run_bytesToString w a _ _ [] (by simp [loadCells, loadCellsFrom])]
      rfl
    · obtain ⟨b, off, he, _, hc⟩ := h4 hl
      obtain rfl := Option.some.inj he
      have := run_convert_bytes_arg (P := Try.prog) w 126 5 Try.underlying126 Try.underlying5 b off l.length cap (l.map fun c => (c.toNat : Int)) (by simp)
        (fun i hi => by rw [hc i hi]; simp [List.getD, hi]) 9 Try.underlying9
      rw [this]
      congr 2
      unfold strOfNums
      congr 2
      rw [List.map_map]
      conv => rhs; rw [← List.map_id l]
      apply List.map_congr_left
      intro c _
      simp

set_option maxHeartbeats 1000000 in
set_option maxRecDepth 100000 in
theorem refnum_any (v : Nat) (hv : v < 18446744073709551616) (w : World) :
    Calls Try.prog 73 #[.int .u64 v] w fun e w' => e = .returned (.string ⟨(Lib.uvarint v).toArray⟩) ∧ Below w.heap.size w w' := by
  obtain ⟨i0, hi, hz0, hz1, hz2⟩ := info_parts info_u8
  have hlen := Lib.uvarint_length64 hv
  go_enter Try.func73, Try.ntmps73
  go_wp2
  go_loopw [0, 3] (fun vx vo wr => ∃ (y : Nat) (pre : List UInt8), vx = .int .u64 y ∧ y ≤ v ∧ Lib.uvarint v = pre ++ Lib.uvarint y ∧ wr.ownsRow w.heap.size 5 1 vo pre.length (Lib.byteCells pre) ∧ Below w.heap.size w wr)
    (fun vx _ _ => (intOf vx).toNat)
  case atStart => exact ⟨v, [], rfl, Nat.le_refl _, rfl, World.ownsRow_nil _ _ _ _, Below.refl _ _⟩
  case round =>
    obtain ⟨y, pre, rfl, hy, hsplit, hown, hnx⟩ := hrel
    have hpl : pre.length + (Lib.uvarint y).length ≤ 10 := by
      have h2 := congrArg List.length hsplit
      rw [List.length_append] at h2
      omega
    have hyp := Lib.uvarint_pos y
    have hsz := hnx.size
    have HS := Lib.hid hsplit
    clear hsplit
    by_cases h128 : 128 ≤ y
    · have hor := or128_y y
      go_wp2_with (at_builtin; refine wpList_append_own_src rfl (.tmp 6) (.tmp 10) 126 126 rfl w.heap.size 5 i0 (.int .u8 0) 1 1 Try.underlying126 hi hz0 hz1 hz2 rfl _ _ _ rfl (hown.alloc _) _ 1 [Value.int .u8 ((y % 128 + 128 : Nat) : Int)] rfl (src_one wr _ _ rfl) ?c3 ?c4 ?c5 ?_)
      case c3 => unfold maxLen; omega
      case c4 => omega
      case c5 => simp; omega
      intro v' w1 hown' hgrow
      have H2 : Below w.heap.size w w1 := (hnx.alloc hsz _).grown hgrow (by simp; omega) (fun k hk => (hown.lt k hk).1)
      clear hor
      go_wp2
      go_roundw
      case rel =>
        refine ⟨y / 128, pre ++ [(y % 128 + 128).toUInt8], by go_num, by omega, by rw [HS.out, Lib.uvarint_big h128]; simp, ?_, H2⟩
        have ec : Lib.byteCells (pre ++ [(y % 128 + 128).toUInt8]) = Lib.byteCells pre ++ [Value.int .u8 ((y % 128 + 128 : Nat) : Int)] := Lib.byteCells_snoc _ (by omega)
        rw [ec, List.length_append, List.length_singleton, show ((y % 128 + 128 : Nat) : Int) = (y : Int) % 128 + 128 by omega]
        exact hown'
      case measure => simp [intOf]; omega
    · have hsm : Lib.uvarint y = [y.toUInt8] := Lib.uvarint_small (by omega)
      have HM := Lib.hid hsm
      clear hsm
      go_wp2_with (at_builtin; refine wpList_append_own_src rfl (.tmp 14) (.tmp 17) 126 126 rfl w.heap.size 5 i0 (.int .u8 0) 1 1 Try.underlying126 hi hz0 hz1 hz2 rfl _ _ _ rfl (hown.alloc _) _ 1 [Value.int .u8 (y : Int)] rfl (src_one wr _ _ rfl) ?c3 ?c4 ?c5 ?_)
      case c3 => unfold maxLen; omega
      case c4 => omega
      case c5 => simp; omega
      intro v' w1 hown' hgrow
      have H2 : Below w.heap.size w w1 := (hnx.alloc hsz _).grown hgrow (by simp; omega) (fun k hk => (hown.lt k hk).1)
      have ec : Lib.byteCells (pre ++ [y.toUInt8]) = Lib.byteCells pre ++ [Value.int .u8 (y : Int)] := Lib.byteCells_snoc _ (by omega)
      rw [← ec] at hown'
      have hk := run_conv_byt (byt_own hown' (Nat.le_refl _))
      clear ec
      go_wp2
      go_returns
      exact ⟨by rw [HS.out, HM.out]; rfl, H2⟩

set_option maxHeartbeats 1000000 in
theorem reftext_any (s : ByteArray) (w : World) (hs : s.size ≤ 140737488355328) :
    Calls Try.prog 74 #[.string s] w fun e w' => e = .returned (.string ⟨(Lib.uvarint s.size ++ s.data.toList).toArray⟩) ∧ Below w.heap.size w w' := by
  have hul : (Lib.uvarint s.size).length ≤ 10 := Lib.uvarint_length64 (by omega)
  have H := Lib.hid (refnum_any s.size (by omega) w)
  go_enter Try.func74, Try.ntmps74
  go_wp2_with fail
  refine H.out.mono ?_
  rintro e w1 ⟨rfl, h2⟩
  have hsz : (ByteArray.mk (Lib.uvarint s.size).toArray).size = (Lib.uvarint s.size).length := List.size_toArray
  have ha : (Op.stringOp .add ⟨(Lib.uvarint s.size).toArray⟩ s).run Try.prog w1 = .ok (.string ⟨(Lib.uvarint s.size ++ s.data.toList).toArray⟩) w1 := by
    rw [run_string_add_sum w1 _ _ (by rw [hsz]; omega)]
    have : (ByteArray.mk (Lib.uvarint s.size).toArray ++ s) = ⟨(Lib.uvarint s.size ++ s.data.toList).toArray⟩ := by
      apply ByteArray.ext
      simp [ByteArray.data_append]
    rw [this]
  clear hsz
  go_wp2
  go_returns
  exact ⟨rfl, h2⟩


end Go.Proofs.Ytpcbpimlakehcaa

/-! ## PackMath -/
/-
  THE NUMBER AT THE BEGINNING OF SOME BYTES, AS A PLAIN FUNCTION, and how it stands to the bytes that are written: no program, no condition.
-/
namespace Go.Proofs.Ytpcbpimlakehcaa

/-- i bytes went ahead, their seven bits spell acc: the number and how many bytes it has in all; none: there is no number. -/
def numAt : Nat → Nat → List UInt8 → Option (Nat × Nat)
  | _, _, [] => none
  | i, acc, b :: r =>
    if i = 9 ∧ 1 < b.toNat then none
    else if 128 ≤ b.toNat then numAt (i + 1) (acc + b.toNat % 128 * 2 ^ (7 * i)) r
    else if b.toNat = 0 ∧ 0 < i then none
    else some (acc + b.toNat * 2 ^ (7 * i), i + 1)

def numRes : Option (Nat × Nat) → Nat × Nat
  | none => (0, 0)
  | some x => x

theorem numAt_more : ∀ (l r : List UInt8) (i acc : Nat) (x : Nat × Nat), numAt i acc l = some x → numAt i acc (l ++ r) = some x
  | [], _, _, _, _, h => by simp [numAt] at h
  | b :: t, r, i, acc, x, h => by
    simp only [numAt, List.cons_append] at h ⊢
    split at h
    · cases h
    · rename_i h1
      rw [if_neg h1]
      split at h
      · rename_i h2
        rw [if_pos h2]
        exact numAt_more t r _ _ _ h
      · rename_i h2
        rw [if_neg h2]
        exact h

theorem numAt_size : ∀ (l : List UInt8) (i acc : Nat) (x : Nat × Nat), numAt i acc l = some x → i < x.2 ∧ x.2 ≤ i + l.length
  | [], _, _, _, h => by simp [numAt] at h
  | b :: t, i, acc, x, h => by
    simp only [numAt] at h
    split at h
    · cases h
    · split at h
      · have := numAt_size t _ _ _ h
        simp only [List.length_cons]; omega
      · split at h
        · cases h
        · cases h
          simp only [List.length_cons]; omega

/-- The value that numAt reads stands in the bytes that it took: from place i on they are the number's own bytes, and it is small enough. -/
theorem numAt_bytes : ∀ (l : List UInt8) (i acc : Nat) (x : Nat × Nat), i ≤ 9 → numAt i acc l = some x →
    ∃ v, x.1 = acc + v * 2 ^ (7 * i) ∧ l.take (x.2 - i) = Lib.uvarint v ∧ (0 < i → 0 < v) ∧ v * 2 ^ (7 * i) < 2 ^ 64
  | [], _, _, _, _, h => by simp [numAt] at h
  | b :: t, i, acc, x, hi, h => by
    have hb : b.toNat < 256 := b.toNat_lt
    have hp : (2 : Nat) ^ (7 * (i + 1)) = 2 ^ (7 * i) * 128 := by rw [Nat.mul_add, Nat.pow_add]
    simp only [numAt] at h
    split at h
    · cases h
    · rename_i h9
      split at h
      · rename_i h128
        have hi9 : i < 9 := by
          rcases Nat.lt_or_ge i 9 with h' | h'
          · exact h'
          · exact absurd ⟨by omega, by omega⟩ h9
        obtain ⟨v, e1, e2, e3, e4⟩ := numAt_bytes t (i + 1) _ x (by omega) h
        have hsz := (numAt_size t _ _ _ h).1
        have hv := e3 (by omega)
        have hd : (v * 128 + b.toNat % 128) / 128 = v := by omega
        have hm : (v * 128 + b.toNat % 128) % 128 = b.toNat % 128 := by omega
        refine ⟨v * 128 + b.toNat % 128, ?_, ?_, fun _ => by omega, ?_⟩
        · rw [e1, hp, Nat.add_mul, Nat.add_assoc, Nat.mul_assoc, Nat.mul_comm 128, Nat.add_comm (b.toNat % 128 * _)]
        · rw [Lib.uvarint_big (by omega), hd, hm, ← e2, show x.2 - i = (x.2 - (i + 1)) + 1 by omega, List.take_succ_cons]
          congr 1
          apply UInt8.toNat_inj.1
          rw [Lib.toUInt8_toNat (by omega)]
          omega
        · rw [hp, ← Nat.mul_assoc, Nat.mul_right_comm] at e4
          have hlt : v * 128 + b.toNat % 128 < (v + 1) * 128 := by omega
          have hpow : (2 : Nat) ^ 64 = 2 ^ (7 * i) * 128 * 2 ^ (57 - 7 * i) := by
            rw [show (128 : Nat) = 2 ^ 7 by decide, ← Nat.pow_add, ← Nat.pow_add]
            congr 1
            omega
          have e5 : (v + 1) * 128 * 2 ^ (7 * i) ≤ 2 ^ 64 := by
            rw [hpow] at e4 ⊢
            have h6 : v * 128 * 2 ^ (7 * i) = 2 ^ (7 * i) * 128 * v := by ac_rfl
            have h7 : v < 2 ^ (57 - 7 * i) := Nat.lt_of_mul_lt_mul_left (a := 2 ^ (7 * i) * 128) (by rw [← h6]; exact e4)
            have h8 : (v + 1) * 128 * 2 ^ (7 * i) = 2 ^ (7 * i) * 128 * (v + 1) := by ac_rfl
            rw [h8]
            exact Nat.mul_le_mul_left _ h7
          exact Nat.lt_of_lt_of_le (Nat.mul_lt_mul_of_pos_right hlt (Nat.two_pow_pos _)) e5
      · rename_i h128
        split at h
        · cases h
        · rename_i h0
          cases h
          refine ⟨b.toNat, rfl, ?_, fun h => by omega, ?_⟩
          · rw [Lib.uvarint_small (by omega)]
            simp
          · by_cases hi9 : i = 9
            · subst hi9
              have : b.toNat ≤ 1 := by
                rcases Nat.lt_or_ge 1 b.toNat with h' | h'
                · exact absurd ⟨rfl, h'⟩ h9
                · exact h'
              have e63 : (2 : Nat) ^ (7 * 9) = 9223372036854775808 := by decide
              have e64 : (2 : Nat) ^ 64 = 18446744073709551616 := by decide
              rw [e63, e64]; omega
            · have hle : (2 : Nat) ^ (7 * i) ≤ 2 ^ (7 * 8) := Nat.pow_le_pow_right (by decide) (by omega)
              have e56 : (2 : Nat) ^ (7 * 8) = 72057594037927936 := by decide
              have e64 : (2 : Nat) ^ 64 = 18446744073709551616 := by decide
              have := Nat.mul_le_mul (show b.toNat ≤ 127 by omega) hle
              rw [e56] at this
              rw [e64]; omega

/-- What is written is read. -/
theorem numAt_uvarint_at : ∀ (k v i acc : Nat), v < 128 ^ (k + 1) → (0 < i → 0 < v) → i + k ≤ 9 → v * 2 ^ (7 * i) < 2 ^ 64 → ∀ r, numAt i acc (Lib.uvarint v ++ r) = some (acc + v * 2 ^ (7 * i), i + (Lib.uvarint v).length)
  | 0, v, i, acc, hk, h0, hi, h64, r => by
    have hv : v < 128 := by simpa using hk
    rw [Lib.uvarint_small hv]
    have ht : (v.toUInt8).toNat = v := Lib.toUInt8_toNat (by omega)
    have h9 : ¬ (i = 9 ∧ 1 < v) := by
      rintro ⟨rfl, h⟩
      have e63 : (2 : Nat) ^ (7 * 9) = 9223372036854775808 := by decide
      have e64 : (2 : Nat) ^ 64 = 18446744073709551616 := by decide
      rw [e63, e64] at h64; omega
    have hz : ¬ (v = 0 ∧ 0 < i) := fun ⟨h1, h2⟩ => by have := h0 h2; omega
    simp only [List.cons_append, List.nil_append, numAt, ht, List.length_singleton]
    rw [if_neg h9, if_neg (by omega), if_neg hz]
  | k + 1, v, i, acc, hk, h0, hi, h64, r => by
    by_cases hv : v < 128
    · exact numAt_uvarint_at 0 v i acc (by simpa using hv) h0 (by omega) h64 r
    · have hp : (2 : Nat) ^ (7 * (i + 1)) = 2 ^ (7 * i) * 128 := by rw [Nat.mul_add, Nat.pow_add]
      have ht : ((v % 128 + 128).toUInt8).toNat = v % 128 + 128 := Lib.toUInt8_toNat (by omega)
      rw [Lib.uvarint_big (by omega)]
      have h1 : v / 128 < 128 ^ (k + 1) := by rw [Nat.pow_succ] at hk; exact Nat.div_lt_of_lt_mul (by rw [Nat.mul_comm]; exact hk)
      have h2 : v / 128 * 2 ^ (7 * (i + 1)) < 2 ^ 64 := by
        refine Nat.lt_of_le_of_lt ?_ h64
        rw [hp, Nat.mul_comm (2 ^ (7 * i)), ← Nat.mul_assoc]
        exact Nat.mul_le_mul_right _ (by omega)
      have h := numAt_uvarint_at k (v / 128) (i + 1) (acc + v % 128 * 2 ^ (7 * i)) h1 (fun _ => by omega) (by omega) h2 r
      simp only [List.cons_append, numAt, ht, List.length_cons]
      rw [if_neg (by omega), if_pos (by omega), show (v % 128 + 128) % 128 = v % 128 by omega, h]
      congr 2
      · rw [hp, Nat.mul_comm (2 ^ (7 * i)) 128, ← Nat.mul_assoc, Nat.add_assoc, ← Nat.add_mul, show v % 128 + v / 128 * 128 = v by omega]
      · omega

theorem numAt_uvarint (v : Nat) (hv : v < 18446744073709551616) (r : List UInt8) : numAt 0 0 (Lib.uvarint v ++ r) = some (v, (Lib.uvarint v).length) := by
  have := numAt_uvarint_at 9 v 0 0 (Nat.lt_of_lt_of_le hv (by decide)) (fun h => absurd h (by omega)) (by omega) (by simpa using hv) r
  simpa using this

theorem numAt_zero (l : List UInt8) (v n : Nat) (h : numAt 0 0 l = some (v, n)) : l.take n = Lib.uvarint v ∧ v < 18446744073709551616 ∧ 0 < n ∧ n ≤ l.length := by
  obtain ⟨v', e1, e2, _, e4⟩ := numAt_bytes l 0 0 (v, n) (by omega) h
  have hs := numAt_size l 0 0 (v, n) h
  have e : v = v' := by simpa using e1
  subst e
  exact ⟨by simpa using e2, by simpa using e4, by omega, by simpa using hs.2⟩

/-- Cut off anywhere, what was written of a number is no number. -/
theorem numAt_cut (v : Nat) (hv : v < 18446744073709551616) (p q : List UInt8) (hq : q ≠ []) (h : p ++ q = Lib.uvarint v) : numAt 0 0 p = none := by
  cases hp : numAt 0 0 p with
  | none => rfl
  | some x =>
    have h1 := numAt_more p q 0 0 x hp
    have h2 := numAt_uvarint v hv []
    rw [List.append_nil, ← h, h1] at h2
    have h3 := numAt_size p 0 0 x hp
    have h4 : x = (v, (p ++ q).length) := Option.some.inj h2
    rw [h4] at h3
    have : 0 < q.length := List.length_pos_iff.2 hq
    simp only [List.length_append] at h3
    omega

/-- Bytes that all go on, and a zero byte behind them: no number. -/
theorem numAt_long : ∀ (l : List UInt8) (i acc : Nat), (∀ b ∈ l, 128 ≤ b.toNat) → (0 < i ∨ l ≠ []) → numAt i acc (l ++ [0]) = none
  | [], i, acc, _, h => by
    have hi : 0 < i := by rcases h with h | h; exact h; exact absurd rfl h
    simp [numAt, hi]
  | b :: t, i, acc, hb, _ => by
    have h1 := hb b (by simp)
    simp only [List.cons_append, numAt]
    by_cases h9 : i = 9 ∧ 1 < b.toNat
    · rw [if_pos h9]
    · rw [if_neg h9, if_pos h1]
      exact numAt_long t _ _ (fun x hx => hb x (by simp [hx])) (.inl (by omega))

/-- 'acc | c << 7i' as a sum. -/
theorem or_join (k acc c : Nat) (hk : k ≤ 9) (hacc : acc < 2 ^ (7 * k)) (hc : c < 128) (h9 : k = 9 → c ≤ 1) :
    bits .or .u64 (acc : Int) (IntKind.u64.wrap ((c : Int) * 2 ^ (7 * k))) = ((acc + c * 2 ^ (7 * k) : Nat) : Int) ∧ acc + c * 2 ^ (7 * k) < 2 ^ (7 * (k + 1)) ∧ acc + c * 2 ^ (7 * k) < 18446744073709551616 := by
  have hs : k = 0 ∨ k = 1 ∨ k = 2 ∨ k = 3 ∨ k = 4 ∨ k = 5 ∨ k = 6 ∨ k = 7 ∨ k = 8 ∨ k = 9 := by omega
  have hw : ∀ n : Int, IntKind.u64.wrap n = n % 18446744073709551616 := IntKind.wrap_u64
  rw [hw]
  rcases hs with rfl | rfl | rfl | rfl | rfl | rfl | rfl | rfl | rfl | rfl
  · have e : (2 : Nat) ^ (7 * 0) = 1 := by decide
    have e' : (2 : Int) ^ (7 * 0) = 1 := by decide
    have e2 : (2 : Nat) ^ (7 * (0 + 1)) = 128 := by decide
    rw [e] at hacc
    rw [e, e', e2]
    refine ⟨?_, by omega, by omega⟩
    rw [u64_orv0 _ _ (by omega) (by omega) (by omega) (by omega) (by omega)]
    omega
  · have e : (2 : Nat) ^ (7 * 1) = 128 := by decide
    have e' : (2 : Int) ^ (7 * 1) = 128 := by decide
    have e2 : (2 : Nat) ^ (7 * (1 + 1)) = 16384 := by decide
    rw [e] at hacc
    rw [e, e', e2]
    refine ⟨?_, by omega, by omega⟩
    rw [u64_orv7 _ _ (by omega) (by omega) (by omega) (by omega) (by omega)]
    omega
  · have e : (2 : Nat) ^ (7 * 2) = 16384 := by decide
    have e' : (2 : Int) ^ (7 * 2) = 16384 := by decide
    have e2 : (2 : Nat) ^ (7 * (2 + 1)) = 2097152 := by decide
    rw [e] at hacc
    rw [e, e', e2]
    refine ⟨?_, by omega, by omega⟩
    rw [u64_orv14 _ _ (by omega) (by omega) (by omega) (by omega) (by omega)]
    omega
  · have e : (2 : Nat) ^ (7 * 3) = 2097152 := by decide
    have e' : (2 : Int) ^ (7 * 3) = 2097152 := by decide
    have e2 : (2 : Nat) ^ (7 * (3 + 1)) = 268435456 := by decide
    rw [e] at hacc
    rw [e, e', e2]
    refine ⟨?_, by omega, by omega⟩
    rw [u64_orv21 _ _ (by omega) (by omega) (by omega) (by omega) (by omega)]
    omega
  · have e : (2 : Nat) ^ (7 * 4) = 268435456 := by decide
    have e' : (2 : Int) ^ (7 * 4) = 268435456 := by decide
    have e2 : (2 : Nat) ^ (7 * (4 + 1)) = 34359738368 := by decide
    rw [e] at hacc
    rw [e, e', e2]
    refine ⟨?_, by omega, by omega⟩
    rw [u64_orv28 _ _ (by omega) (by omega) (by omega) (by omega) (by omega)]
    omega
  · have e : (2 : Nat) ^ (7 * 5) = 34359738368 := by decide
    have e' : (2 : Int) ^ (7 * 5) = 34359738368 := by decide
    have e2 : (2 : Nat) ^ (7 * (5 + 1)) = 4398046511104 := by decide
    rw [e] at hacc
    rw [e, e', e2]
    refine ⟨?_, by omega, by omega⟩
    rw [u64_orv35 _ _ (by omega) (by omega) (by omega) (by omega) (by omega)]
    omega
  · have e : (2 : Nat) ^ (7 * 6) = 4398046511104 := by decide
    have e' : (2 : Int) ^ (7 * 6) = 4398046511104 := by decide
    have e2 : (2 : Nat) ^ (7 * (6 + 1)) = 562949953421312 := by decide
    rw [e] at hacc
    rw [e, e', e2]
    refine ⟨?_, by omega, by omega⟩
    rw [u64_orv42 _ _ (by omega) (by omega) (by omega) (by omega) (by omega)]
    omega
  · have e : (2 : Nat) ^ (7 * 7) = 562949953421312 := by decide
    have e' : (2 : Int) ^ (7 * 7) = 562949953421312 := by decide
    have e2 : (2 : Nat) ^ (7 * (7 + 1)) = 72057594037927936 := by decide
    rw [e] at hacc
    rw [e, e', e2]
    refine ⟨?_, by omega, by omega⟩
    rw [u64_orv49 _ _ (by omega) (by omega) (by omega) (by omega) (by omega)]
    omega
  · have e : (2 : Nat) ^ (7 * 8) = 72057594037927936 := by decide
    have e' : (2 : Int) ^ (7 * 8) = 72057594037927936 := by decide
    have e2 : (2 : Nat) ^ (7 * (8 + 1)) = 9223372036854775808 := by decide
    rw [e] at hacc
    rw [e, e', e2]
    refine ⟨?_, by omega, by omega⟩
    rw [u64_orv56 _ _ (by omega) (by omega) (by omega) (by omega) (by omega)]
    omega
  · have e : (2 : Nat) ^ (7 * 9) = 9223372036854775808 := by decide
    have e' : (2 : Int) ^ (7 * 9) = 9223372036854775808 := by decide
    have e2 : (2 : Nat) ^ (7 * (9 + 1)) = 1180591620717411303424 := by decide
    rw [e] at hacc
    rw [e, e', e2]
    have := h9 rfl
    refine ⟨?_, by omega, by omega⟩
    rw [u64_orv63 _ _ (by omega) (by omega) (by omega) (by omega) (by omega)]
    omega
end Go.Proofs.Ytpcbpimlakehcaa

/-! ## PackN -/
/-
  WHAT A READER DOES: firstNum, isWrong, Num, Text, Yes, End behind any calls, each as a plain function of what is left. No condition but that lengths stay below 2^47.
-/
namespace Go.Proofs.Ytpcbpimlakehcaa
open Go.RowKit

def rNum (most : Nat) : Option (List UInt8) → Nat × Option (List UInt8)
  | none => (0, none)
  | some l => match numAt 0 0 l with
    | none => (0, none)
    | some x => if x.1 ≤ most then (x.1, some (l.drop x.2)) else (0, none)

def rTextOf : Nat × Option (List UInt8) → List UInt8 × Option (List UInt8)
  | (_, none) => ([], none)
  | (n, some l) => if n ≤ l.length then (l.take n, some (l.drop n)) else ([], none)
def rText (most : Nat) (st : Option (List UInt8)) : List UInt8 × Option (List UInt8) := rTextOf (rNum most st)
def rYes (st : Option (List UInt8)) : Bool × Option (List UInt8) := (decide ((rNum 1 st).1 = 1), (rNum 1 st).2)
def rEnd : Option (List UInt8) → Int
  | none => 2
  | some [] => 0
  | some (_ :: _) => 9

theorem ret_fn {a b c d : Int} (h1 : a = c) (h2 : b = d) : Ending.returned (.tuple #[.int .u64 a, .int .i64 b]) = .returned (.tuple #[.int .u64 c, .int .i64 d]) := by rw [h1, h2]

end Go.Proofs.Ytpcbpimlakehcaa

/-! ## PackQ -/
/-
  WHAT A READER DOES: isWrong, Num, Text, Yes, End behind any calls, each as a plain function of what is left. No condition but that lengths stay below 2^47.
-/
namespace Go.Proofs.Ytpcbpimlakehcaa
open Go.RowKit

theorem cell_of_two0 {w : World} {b : Nat} {u v : Value} {t : TypeId} (h : w.heap[b]? = some (.cells #[u, v] t (0, 0))) : w.cell? ⟨b, 0, none⟩ = some u := by simp [World.cell?, h]
theorem cell_of_two1 {w : World} {b : Nat} {u v : Value} {t : TypeId} (h : w.heap[b]? = some (.cells #[u, v] t (0, 0))) : w.cell? ⟨b, 1, none⟩ = some v := by simp [World.cell?, h]
theorem free_of_two {w : World} {b : Nat} {u v : Value} {t : TypeId} (h : w.heap[b]? = some (.cells #[u, v] t (0, 0))) (o : Nat) : w.frozen? ⟨b, o, none⟩ = false := by simp [World.frozen?, h]
theorem two_setCell0 {w : World} {b : Nat} {u v x : Value} {t : TypeId} (h : w.heap[b]? = some (.cells #[u, v] t (0, 0))) : (w.setCell ⟨b, 0, none⟩ x).heap[b]? = some (.cells #[x, v] t (0, 0)) := by
  have hlt := lt_of_block h
  have h' : w.heap[b] = .cells #[u, v] t (0, 0) := by simpa [Array.getElem?_eq_getElem hlt] using h
  show (w.heap.modify b _)[b]? = _
  rw [Array.getElem?_eq_getElem (by simpa using hlt), Array.getElem_modify_self, h']
  rfl
theorem two_setCell1 {w : World} {b : Nat} {u v x : Value} {t : TypeId} (h : w.heap[b]? = some (.cells #[u, v] t (0, 0))) : (w.setCell ⟨b, 1, none⟩ x).heap[b]? = some (.cells #[u, x] t (0, 0)) := by
  have hlt := lt_of_block h
  have h' : w.heap[b] = .cells #[u, v] t (0, 0) := by simpa [Array.getElem?_eq_getElem hlt] using h
  show (w.heap.modify b _)[b]? = _
  rw [Array.getElem?_eq_getElem (by simpa using hlt), Array.getElem_modify_self, h']
  rfl

theorem grownBy_setCell (w : World) (b o : Nat) (x : Value) : w.grownBy (w.setCell ⟨b, o, none⟩ x) (some b) :=
  ⟨rfl, rfl, rfl, by simp [World.setCell], fun k _ hk => Below.heap_setCell _ _ _ _ (fun e => hk (by rw [e]))⟩

theorem grownBy_trans {a b c : World} {row : Option Nat} (h1 : a.grownBy b row) (h2 : b.grownBy c row) : a.grownBy c row :=
  ⟨h2.os.trans h1.os, h2.tape.trans h1.tape, h2.output.trans h1.output, Nat.le_trans h1.size h2.size, fun k hk hne => (h2.block k (Nat.lt_of_lt_of_le hk h1.size) hne).trans (h1.block k hk hne)⟩

theorem below_setCell (w : World) (h o : Nat) (x : Value) : Below h w (w.setCell ⟨h, o, none⟩ x) := (Below.refl h w).setCell (p := ⟨h, o, none⟩) (Nat.le_refl h) x

theorem grown_below {w w' : World} {h B : Nat} (hg : w.grownBy w' (some h)) (hB : B ≤ h) (hs : h < w.heap.size) : Below B w w' :=
  (Below.refl _ _).grown hg (by omega) (fun k hk => by simp at hk; omega)

/-- Left is cut at its front: what it holds then. -/
theorem byt_drop {w : World} {B b off cap k : Nat} {l : List UInt8} (h : Byt w B (.slice (some ⟨b, off, none⟩) l.length cap) l) (hk : k < cap) (hkl : k ≤ l.length) :
    Byt w B (.slice (some ⟨b, off + k, none⟩) (l.length - k) (cap - k)) (l.drop k) := by
  obtain ⟨ao, cap', he, h1, h2, h3, h4⟩ := h
  simp only [Value.slice.injEq] at he
  obtain ⟨rfl, _, rfl⟩ := he
  refine ⟨_, _, by rw [List.length_drop], by rw [List.length_drop]; omega, by omega, fun e => by simp at e, fun hd => ?_⟩
  have hl : l ≠ [] := fun e => hd (by rw [e]; simp)
  obtain ⟨b', off', he, hb, hc⟩ := h4 hl
  simp only [Option.some.injEq, Addr.mk.injEq, and_true] at he
  obtain ⟨rfl, rfl⟩ := he
  refine ⟨_, _, rfl, hb, fun j hj => ?_⟩
  rw [List.length_drop] at hj
  rw [Nat.add_assoc, hc (k + j) (by omega)]
  simp [List.getD]

theorem byt_end {w : World} {B : Nat} (ao : Option Addr) (cap : Nat) (h2 : cap ≤ maxLen) (h3 : ao = none → cap = 0) : Byt w B (.slice ao 0 cap) [] :=
  ⟨ao, cap, rfl, Nat.zero_le _, h2, h3, fun h => absurd rfl h⟩

theorem ret_u64 {a b : Int} (h : a = b) : Ending.returned (.int .u64 a) = .returned (.int .u64 b) := by rw [h]

theorem ret_bool {a b : Bool} (h : a = b) : Ending.returned (.bool a) = .returned (.bool b) := by rw [h]
theorem ret_num {a b : Int} (h : a = b) : Ending.returned (.int .i64 a) = .returned (.int .i64 b) := by rw [h]



theorem byt_take {w : World} {B b off cap k : Nat} {l : List UInt8} (h : Byt w B (.slice (some ⟨b, off, none⟩) l.length cap) l) (hkl : k ≤ l.length) :
    Byt w B (.slice (some ⟨b, off, none⟩) k cap) (l.take k) := by
  obtain ⟨ao, cap', he, h1, h2, h3, h4⟩ := h
  simp only [Value.slice.injEq] at he
  obtain ⟨rfl, _, rfl⟩ := he
  have hlen : (l.take k).length = k := by rw [List.length_take]; omega
  refine ⟨_, _, by rw [hlen], by rw [hlen]; omega, h2, fun e => by simp at e, fun hd => ?_⟩
  have hl : l ≠ [] := fun e => hd (by rw [e]; simp)
  obtain ⟨b', off', he, hb, hc⟩ := h4 hl
  simp only [Option.some.injEq, Addr.mk.injEq, and_true] at he
  obtain ⟨rfl, rfl⟩ := he
  refine ⟨_, _, rfl, hb, fun j hj => ?_⟩
  rw [hlen] at hj
  rw [hc j (by omega)]
  simp [List.getD, hj]

end Go.Proofs.Ytpcbpimlakehcaa

/-! ## Conv -/
/-
  A TEXT AS BYTES: a new row. No condition but that it is no longer than a slice may be.
-/
namespace Go.Proofs.Ytpcbpimlakehcaa
open Go.RowKit

/-- A text as bytes: a new row. -/
theorem conv_bytes (u : World) (l : List UInt8) (hl : l.length ≤ maxLen) : ∃ c u', (convert 9 126 (.string ⟨l.toArray⟩)).run Try.prog u = .ok (.slice (some ⟨u.heap.size, 0, none⟩) l.length c) u' ∧
    Byt u' u'.heap.size (.slice (some ⟨u.heap.size, 0, none⟩) l.length c) l ∧ (∀ j, j < l.length → u'.frozen? ⟨u.heap.size, j, none⟩ = false) ∧ Below u.heap.size u u' := by
  have hs : (ByteArray.mk l.toArray).size = l.length := List.size_toArray
  have hr := Lib.run_convert_string_bytes (P := Try.prog) u 9 126 5 ⟨l.toArray⟩ Try.underlying9 Try.underlying126 Try.underlying5
  rw [hs] at hr
  refine ⟨_, _, hr, ?_, fun j hj => ?_, ?_⟩
  · refine ⟨_, _, rfl, grownCap_ge u l.length 0 5, grownCap_le_maxLen u l.length 0 5 hl, fun e => by simp at e, fun _ => ⟨_, _, rfl, by rw [Lib.bytesWorld_size]; omega, fun j hj => ?_⟩⟩
    rw [Nat.zero_add]
    exact Lib.bytesWorld_cell u 5 ⟨l.toArray⟩ j (by rw [hs]; exact hj)
  · have hn := Lib.bytesWorld_at_new u 5 ⟨l.toArray⟩
    have hz : l.length ≤ (Lib.bytesCells u 5 ⟨l.toArray⟩).size := by
      simp [Lib.bytesCells]
    simp [World.frozen?, hn]
    omega
  · exact ⟨rfl, rfl, rfl, by rw [Lib.bytesWorld_size]; omega, fun k hk => Lib.bytesWorld_at_old u 5 ⟨l.toArray⟩ k hk⟩
end Go.Proofs.Ytpcbpimlakehcaa
