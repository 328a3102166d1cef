/-
  WHAT A WRITER DOES: Num, Text, Yes, Bytes behind any calls, and the reference's Num, Text, Yes; no condition but that the bytes stay below 2^47.
-/
import Derived.Test.YtaaffceanjpmbaaPackBase
namespace Go.Proofs.Ytaaffceanjpmbaa
open Go.RowKit

theorem src_one (w : World) (v : Value) (e : TypeId) (h1 : v.oneCell' = true) : Src Try.prog 1 42 (.slice (some ⟨w.heap.size, 0, none⟩) 1 1) 1 [v] (w.alloc (.cells #[v] e)) :=
  Src.ofSlice _ Try.underlying42 ⟨w.heap.size, 0, none⟩ 1 1 [v] rfl
    (by intro j u hj; match j, hj with | 0, hj => simp at hj; subst hj; simp [Addr.add])
    (by intro u hu; simp at hu; subst hu; exact h1)

/-- What an append onto the writer's row leaves of the writer's own block. -/
theorem wrt_grown {w0 w1 : World} {g n : Nat} {v0 : Value} {e0 : TypeId} {xs : List Value} (hb : w0.heap[g]? = some (.cells #[v0] e0 (0, 0))) (hown : w0.ownsRow (g + 1) 5 1 v0 n xs) (hg : w0.grownBy w1 v0.ownBlock) :
    w1.heap[g]? = some (.cells #[v0] e0 (0, 0)) ∧ Below g w0 w1 :=
  ⟨(hg.block g (lt_of_block hb) (fun e => by have := (hown.lt g e.symm).1; omega)).trans hb,
   (Below.refl _ _).grown hg (Nat.le_of_lt (lt_of_block hb)) (fun k hk => by have := (hown.lt k hk).1; omega)⟩

theorem or128_y (y : Nat) : bits .or .u8 ((y : Int) % 256) 128 = ((y % 128 + 128 : Nat) : Int) := by
  rw [Lib.u8_or128_any _ (by omega) (by omega)]
  omega

set_option maxHeartbeats 1000000 in
set_option maxRecDepth 100000 in
theorem wnum_any (g v : Nat) (hv : v < 18446744073709551616) (xs : List UInt8) (w : World) (hW : Wrt w g xs) (hlim : xs.length + 10 ≤ 140737488355328) :
    Calls Try.prog 86 #[.pointer (some ⟨g, 0, none⟩), .int .u64 v] w fun e w' => e = .returned (.tuple #[]) ∧ Wrt w' g (xs ++ Lib.uvarint v) ∧ Below g w w' := by
  obtain ⟨i0, hi, hz0, hz1, hz2⟩ := info_parts info_u8
  have hlen := Lib.uvarint_length64 hv
  go_enter Try.func86, Try.ntmps86
  go_wp2
  go_loopw [1] (fun vx wr => ∃ (y : Nat) (pre : List UInt8), vx = .int .u64 y ∧ y ≤ v ∧ Lib.uvarint v = pre ++ Lib.uvarint y ∧ Wrt wr g (xs ++ pre) ∧ Below g w wr)
    (fun vx _ => (intOf vx).toNat)
  case atStart => exact ⟨v, [], rfl, Nat.le_refl _, rfl, by simpa using hW, Below.refl _ _⟩
  case round =>
    obtain ⟨y, pre, rfl, hy, hsplit, hWr, hnx⟩ := hrel
    have hpl : pre.length + (Lib.uvarint y).length ≤ 10 := by
      have h2 := congrArg List.length hsplit
      rw [List.length_append] at h2
      omega
    have hyp := Lib.uvarint_pos y
    have hlt := hWr.lt
    obtain ⟨v0, e0, hb, hown⟩ := hWr
    have c0 := cell_of_one hb
    have f0 := free_of_one hb
    have HB := Lib.hid hb
    have HS := Lib.hid hsplit
    have hxl : (xs ++ pre).length = xs.length + pre.length := List.length_append
    have HX := Lib.hid hxl
    clear hb hsplit hxl
    by_cases h128 : 128 ≤ y
    · have hor := or128_y y
      go_wp2_with (at_builtin; refine wpList_append_own_src rfl (.tmp 14) (.tmp 18) 42 42 rfl (g + 1) 5 i0 (.int .u8 0) 1 1 Try.underlying42 hi hz0 hz1 hz2 rfl _ _ _ rfl (hown.alloc _) _ 1 [Value.int .u8 ((y % 128 + 128 : Nat) : Int)] rfl (src_one wr _ _ rfl) ?c3 ?c4 ?c5 ?_)
      case c3 => rw [HX.out]; unfold maxLen; omega
      case c4 => rw [HX.out]; omega
      case c5 => simp; omega
      intro v' w1 hown' hgrow
      have H1 := wrt_grown ((Below.heap_alloc wr _ g hlt).trans HB.out) (hown.alloc _) hgrow
      have H2 : Below g w w1 := hnx.trans (((Below.refl _ _).alloc (by omega) _).trans H1.2)
      obtain ⟨a', c', rfl⟩ := own_shape hown'
      have c1 := cell_of_one H1.1
      have f1 := free_of_one H1.1
      have H1b := Lib.hid H1.1
      clear H1 c0 f0 hor
      go_wp2
      go_roundw
      case rel =>
        refine ⟨y / 128, pre ++ [(y % 128 + 128).toUInt8], by go_num, by omega, by rw [HS.out, Lib.uvarint_big h128]; simp, ?_, H2.setCell (Nat.le_refl _) _⟩
        have ec : Lib.byteCells (xs ++ pre ++ [(y % 128 + 128).toUInt8]) = Lib.byteCells (xs ++ pre) ++ [Value.int .u8 ((y % 128 + 128 : Nat) : Int)] := Lib.byteCells_snoc _ (by omega)
        rw [← List.append_assoc]
        refine Wrt.stored H1b.out ?_
        rw [ec, List.length_append, List.length_singleton, HX.out, show ((y % 128 + 128 : Nat) : Int) = (y : Int) % 128 + 128 by omega]
        exact hown'
      case measure => simp [intOf]; omega
    · have hsm : Lib.uvarint y = [y.toUInt8] := Lib.uvarint_small (by omega)
      have HM := Lib.hid hsm
      clear hsm
      go_wp2_with (at_builtin; refine wpList_append_own_src rfl (.tmp 26) (.tmp 29) 42 42 rfl (g + 1) 5 i0 (.int .u8 0) 1 1 Try.underlying42 hi hz0 hz1 hz2 rfl _ _ _ rfl (hown.alloc _) _ 1 [Value.int .u8 (y : Int)] rfl (src_one wr _ _ rfl) ?c3 ?c4 ?c5 ?_)
      case c3 => rw [HX.out]; unfold maxLen; omega
      case c4 => rw [HX.out]; omega
      case c5 => simp; omega
      intro v' w1 hown' hgrow
      have H1 := wrt_grown ((Below.heap_alloc wr _ g hlt).trans HB.out) (hown.alloc _) hgrow
      have H2 : Below g w w1 := hnx.trans (((Below.refl _ _).alloc (by omega) _).trans H1.2)
      obtain ⟨a', c', rfl⟩ := own_shape hown'
      have c1 := cell_of_one H1.1
      have f1 := free_of_one H1.1
      have H1b := Lib.hid H1.1
      clear H1 c0 f0
      go_wp2
      go_end0
      refine ⟨rfl, ?_, H2.setCell (Nat.le_refl _) _⟩
      have ec : Lib.byteCells (xs ++ pre ++ [y.toUInt8]) = Lib.byteCells (xs ++ pre) ++ [Value.int .u8 (y : Int)] := Lib.byteCells_snoc _ (by omega)
      rw [HS.out, HM.out, ← List.append_assoc]
      refine Wrt.stored H1b.out ?_
      rw [ec, List.length_append, List.length_singleton, HX.out]
      exact hown'

theorem uvarint_bit (b : Bool) : Lib.uvarint (if b then 1 else 0) = [if b then 1 else 0] := by
  cases b <;> (rw [Lib.uvarint_small (by decide)]; rfl)

set_option maxHeartbeats 1000000 in
theorem wyes_any (g : Nat) (b : Bool) (xs : List UInt8) (w : World) (hW : Wrt w g xs) (hlim : xs.length + 10 ≤ 140737488355328) :
    Calls Try.prog 69 #[.pointer (some ⟨g, 0, none⟩), .bool b] w fun e w' => e = .returned (.tuple #[]) ∧ Wrt w' g (xs ++ [if b then 1 else 0]) ∧ Below g w w' := by
  have h1 := (wnum_any g 1 (by decide) xs w hW hlim)
  have h0 := (wnum_any g 0 (by decide) xs w hW hlim)
  have e1 := uvarint_bit true
  have e0 := uvarint_bit false
  simp only [if_true, Bool.false_eq_true, if_false] at e1 e0
  rw [e1] at h1
  rw [e0] at h0
  have H1 := Lib.hid h1
  have H0 := Lib.hid h0
  clear h1 h0 e1 e0
  cases b
  · go_enter Try.func69, Try.ntmps69
    go_wp2_with fail
    refine H0.out.mono ?_
    rintro e w1 ⟨rfl, h2, h3⟩
    go_wp2
    go_end0
    exact ⟨rfl, h2, h3⟩
  · go_enter Try.func69, Try.ntmps69
    go_wp2_with fail
    refine H1.out.mono ?_
    rintro e w1 ⟨rfl, h2, h3⟩
    go_wp2
    go_end0
    exact ⟨rfl, h2, h3⟩

set_option maxHeartbeats 1000000 in
theorem wtext_any (g : Nat) (s : ByteArray) (xs : List UInt8) (w : World) (hW : Wrt w g xs) (hlim : xs.length + 10 + s.size ≤ 140737488355328) :
    Calls Try.prog 65 #[.pointer (some ⟨g, 0, none⟩), .string s] w fun e w' => e = .returned (.tuple #[]) ∧ Wrt w' g (xs ++ Lib.uvarint s.size ++ s.data.toList) ∧ Below g w w' := by
  obtain ⟨i0, hi, hz0, hz1, hz2⟩ := info_parts info_u8
  have hul : (Lib.uvarint s.size).length ≤ 10 := Lib.uvarint_length64 (by omega)
  have H := Lib.hid (wnum_any g s.size (by omega) xs w hW (by omega))
  go_enter Try.func65, Try.ntmps65
  go_wp2_with fail
  refine H.out.mono ?_
  rintro e w1 ⟨rfl, h2, h3⟩
  have hlt := h2.lt
  obtain ⟨v0, e0, hb, hown⟩ := h2
  have c0 := cell_of_one hb
  have f0 := free_of_one hb
  have HB := Lib.hid hb
  have hxl : (xs ++ Lib.uvarint s.size).length = xs.length + (Lib.uvarint s.size).length := List.length_append
  have HX := Lib.hid hxl
  clear hb hxl
  go_wp2_with (at_builtin; refine wpList_append_own_src rfl (.tmp 15) (.tmp 16) 42 9 rfl (g + 1) 5 i0 (.int .u8 0) 1 1 Try.underlying42 hi hz0 hz1 hz2 rfl _ _ _ rfl hown _ s.size (byteCells s) rfl (Src.ofString _ Try.underlying9 s) ?c3 ?c4 ?c5 ?_)
  case c3 => rw [HX.out]; unfold maxLen; omega
  case c4 => rw [HX.out]; omega
  case c5 => omega
  intro v' w2 hown' hgrow
  have H1 := wrt_grown HB.out hown hgrow
  have H2 : Below g w w2 := h3.trans H1.2
  obtain ⟨a', c', rfl⟩ := own_shape hown'
  have c1 := cell_of_one H1.1
  have f1 := free_of_one H1.1
  have H1b := Lib.hid H1.1
  clear H1 c0 f0
  go_wp2
  go_end0
  refine ⟨rfl, ?_, H2.setCell (Nat.le_refl _) _⟩
  refine Wrt.stored H1b.out ?_
  have hsl : s.data.toList.length = s.size := by rw [Array.length_toList]; rfl
  have hfl : (xs ++ Lib.uvarint s.size ++ s.data.toList).length = xs.length + (Lib.uvarint s.size).length + s.size := by rw [List.length_append, HX.out, hsl]
  rw [Lib.byteCells_append (xs ++ Lib.uvarint s.size), hfl]
  exact hown'

/-! ### a writer that is none -/
set_option maxHeartbeats 400000 in
theorem wnum_nil (x : Int) (w : World) : Calls Try.prog 86 #[.pointer none, .int .u64 x] w fun e w' => e = .returned (.tuple #[]) ∧ w = w' := by
  go_enter Try.func86, Try.ntmps86
  go_wp2
  go_returns
  exact ⟨rfl, rfl⟩
set_option maxHeartbeats 400000 in
theorem wtext_nil (x : ByteArray) (w : World) : Calls Try.prog 65 #[.pointer none, .string x] w fun e w' => e = .returned (.tuple #[]) ∧ w = w' := by
  go_enter Try.func65, Try.ntmps65
  go_wp2
  go_returns
  exact ⟨rfl, rfl⟩
set_option maxHeartbeats 400000 in
theorem wyes_nil (b : Bool) (w : World) : Calls Try.prog 69 #[.pointer none, .bool b] w fun e w' => e = .returned (.tuple #[]) ∧ w = w' := by
  cases b <;>
  · go_enter Try.func69, Try.ntmps69
    go_wp2_with (go_at_call 86; refine (wnum_nil _ _).mono ?_; rintro e w' ⟨rfl, rfl⟩)
    go_returns
    exact ⟨rfl, rfl⟩

set_option maxHeartbeats 400000 in
theorem wbytes_nil (w : World) : Calls Try.prog 41 #[.pointer none] w fun e w' => e = .returned (.slice none 0 0) ∧ w = w' := by
  go_enter Try.func41, Try.ntmps41
  go_wp2
  go_returns
  exact ⟨rfl, rfl⟩
end Go.Proofs.Ytaaffceanjpmbaa
