/-
  WHAT A WRITER DOES, with one word more: whatever is no cells lies as it lay, but rows of bytes. No condition but that the bytes stay below 2^47.
-/
import Derived.Test.YtenjjgghoacboaaPackQ
import Derived.RangeFuncOwn
namespace Go.Proofs.Ytenjjgghoacboaa
open Go.RowKit

/-- All blocks but g and rows of bytes are as they were. -/
structure KeepU (g : Nat) (w w' : World) : Prop where
  size : w.heap.size ≤ w'.heap.size
  same : ∀ (k : Nat) (o : Obj), w.heap[k]? = some o → k ≠ g → (∀ cs fr, o ≠ .cells cs 5 fr) → w'.heap[k]? = some o
theorem KeepU.refl (g : Nat) (w : World) : KeepU g w w := ⟨Nat.le_refl _, fun _ _ h _ _ => h⟩
theorem KeepU.trans {g : Nat} {a b c : World} (h : KeepU g a b) (k : KeepU g b c) : KeepU g a c := ⟨Nat.le_trans h.size k.size, fun i o hi hg ho => k.same i o (h.same i o hi hg ho) hg ho⟩
theorem KeepU.alloc (g : Nat) (w : World) (o : Obj) : KeepU g w (w.alloc o) := ⟨by simp, fun k _ hk _ _ => (Below.heap_alloc w o k (Array.getElem?_eq_some_iff.1 hk).1).trans hk⟩
theorem KeepU.setCell (g o : Nat) (w : World) (v : Value) : KeepU g w (w.setCell ⟨g, o, none⟩ v) := ⟨by simp [World.setCell], fun k _ hk hg _ => (Below.heap_setCell _ _ _ _ hg).trans hk⟩
theorem grown_keeps {W w1 : World} {base n g : Nat} {v : Value} {xs : List Value} (hr : W.ownsRow base 5 1 v n xs) (hg : W.grownBy w1 v.ownBlock) : KeepU g W w1 :=
  ⟨hg.size, fun k o hk _ ho => by
    refine (hg.block k (Array.getElem?_eq_some_iff.1 hk).1 ?_).trans hk
    intro e
    rcases hr.2 with ⟨rfl, _⟩ | ⟨r, cap, cur, rfl, _, hgb, _⟩
    · simp [Value.ownBlock] at e
    · obtain rfl : k = r := by simpa [Value.ownBlock] using e
      rw [hk] at hgb
      exact ho _ _ (Option.some.inj hgb)⟩
/-- What is no cells lies as it lay, if g is cells. -/
theorem KeepU.others {g : Nat} {w w' : World} (h : KeepU g w w') {cs : Array Value} {e : TypeId} {fr : Nat × Nat} (hg : w.heap[g]? = some (.cells cs e fr)) : KeepsOthers w w' :=
  ⟨h.size, fun k o hk ho => h.same k o hk (fun e => by subst e; rw [hg] at hk; cases hk; cases ho) (fun cs fr e => by subst e; cases ho)⟩

set_option maxHeartbeats 1000000 in
set_option maxRecDepth 100000 in
theorem wnumk_any (g v : Nat) (hv : v < 18446744073709551616) (xs : List UInt8) (w : World) (hW : Wrt w g xs) (hlim : xs.length + 10 ≤ 140737488355328) :
    Calls Try.prog 100 #[.pointer (some ⟨g, 0, none⟩), .int .u64 v] w fun e w' => e = .returned (.tuple #[]) ∧ Wrt w' g (xs ++ Lib.uvarint v) ∧ Below g w w' ∧ KeepU g w w' := by
  obtain ⟨i0, hi, hz0, hz1, hz2⟩ := info_parts info_u8
  have hlen := Lib.uvarint_length64 hv
  go_enter Try.func100, Try.ntmps100
  go_wp2
  go_loopw [1] (fun vx wr => ∃ (y : Nat) (pre : List UInt8), vx = .int .u64 y ∧ y ≤ v ∧ Lib.uvarint v = pre ++ Lib.uvarint y ∧ Wrt wr g (xs ++ pre) ∧ Below g w wr ∧ KeepU g w wr)
    (fun vx _ => (intOf vx).toNat)
  case atStart => exact ⟨v, [], rfl, Nat.le_refl _, rfl, by simpa using hW, Below.refl _ _, KeepU.refl _ _⟩
  case round =>
    obtain ⟨y, pre, rfl, hy, hsplit, hWr, hnx, hko⟩ := hrel
    have hpl : pre.length + (Lib.uvarint y).length ≤ 10 := by
      have h2 := congrArg List.length hsplit
      rw [List.length_append] at h2
      omega
    have hyp := Lib.uvarint_pos y
    have hlt := hWr.lt
    obtain ⟨v0, e0, hb, hown⟩ := hWr
    have c0 := cell_of_one hb
    have f0 := free_of_one hb
    have HB := Lib.hid hb
    have HS := Lib.hid hsplit
    have hxl : (xs ++ pre).length = xs.length + pre.length := List.length_append
    have HX := Lib.hid hxl
    clear hb hsplit hxl
    by_cases h128 : 128 ≤ y
    · have hor := or128_y y
      go_wp2_with (at_builtin; refine wpList_append_own_src rfl (.tmp 14) (.tmp 18) 54 54 rfl (g + 1) 5 i0 (.int .u8 0) 1 1 Try.underlying54 hi hz0 hz1 hz2 rfl _ _ _ rfl (hown.alloc _) _ 1 [Value.int .u8 ((y % 128 + 128 : Nat) : Int)] rfl (src_one wr _ _ rfl) ?c3 ?c4 ?c5 ?_)
      case c3 => rw [HX.out]; unfold maxLen; omega
      case c4 => rw [HX.out]; omega
      case c5 => simp; omega
      intro v' w1 hown' hgrow
      have H1 := wrt_grown ((Below.heap_alloc wr _ g hlt).trans HB.out) (hown.alloc _) hgrow
      have HKO := Lib.hid ((hko.trans (KeepU.alloc _ _ _)).trans (grown_keeps (hown.alloc _) hgrow))
      have H2 : Below g w w1 := hnx.trans (((Below.refl _ _).alloc (by omega) _).trans H1.2)
      obtain ⟨a', c', rfl⟩ := own_shape hown'
      have c1 := cell_of_one H1.1
      have f1 := free_of_one H1.1
      have H1b := Lib.hid H1.1
      clear H1 c0 f0 hor hko
      go_wp2
      go_roundw
      case rel =>
        refine ⟨y / 128, pre ++ [(y % 128 + 128).toUInt8], by go_num, by omega, by rw [HS.out, Lib.uvarint_big h128]; simp, ?_, H2.setCell (Nat.le_refl _) _, HKO.out.trans (KeepU.setCell _ _ _ _)⟩
        have ec : Lib.byteCells (xs ++ pre ++ [(y % 128 + 128).toUInt8]) = Lib.byteCells (xs ++ pre) ++ [Value.int .u8 ((y % 128 + 128 : Nat) : Int)] := Lib.byteCells_snoc _ (by omega)
        rw [← List.append_assoc]
        refine Wrt.stored H1b.out ?_
        rw [ec, List.length_append, List.length_singleton, HX.out, show ((y % 128 + 128 : Nat) : Int) = (y : Int) % 128 + 128 by omega]
        exact hown'
      case measure => simp [intOf]; omega
    · have hsm : Lib.uvarint y = [y.toUInt8] := Lib.uvarint_small (by omega)
      have HM := Lib.hid hsm
      clear hsm
      go_wp2_with (at_builtin; refine wpList_append_own_src rfl (.tmp 26) (.tmp 29) 54 54 rfl (g + 1) 5 i0 (.int .u8 0) 1 1 Try.underlying54 hi hz0 hz1 hz2 rfl _ _ _ rfl (hown.alloc _) _ 1 [Value.int .u8 (y : Int)] rfl (src_one wr _ _ rfl) ?c3 ?c4 ?c5 ?_)
      case c3 => rw [HX.out]; unfold maxLen; omega
      case c4 => rw [HX.out]; omega
      case c5 => simp; omega
      intro v' w1 hown' hgrow
      have H1 := wrt_grown ((Below.heap_alloc wr _ g hlt).trans HB.out) (hown.alloc _) hgrow
      have HKO := Lib.hid ((hko.trans (KeepU.alloc _ _ _)).trans (grown_keeps (hown.alloc _) hgrow))
      have H2 : Below g w w1 := hnx.trans (((Below.refl _ _).alloc (by omega) _).trans H1.2)
      obtain ⟨a', c', rfl⟩ := own_shape hown'
      have c1 := cell_of_one H1.1
      have f1 := free_of_one H1.1
      have H1b := Lib.hid H1.1
      clear H1 c0 f0 hko
      go_wp2
      go_end0
      refine ⟨rfl, ?_, H2.setCell (Nat.le_refl _) _, HKO.out.trans (KeepU.setCell _ _ _ _)⟩
      have ec : Lib.byteCells (xs ++ pre ++ [y.toUInt8]) = Lib.byteCells (xs ++ pre) ++ [Value.int .u8 (y : Int)] := Lib.byteCells_snoc _ (by omega)
      rw [HS.out, HM.out, ← List.append_assoc]
      refine Wrt.stored H1b.out ?_
      rw [ec, List.length_append, List.length_singleton, HX.out]
      exact hown'

set_option maxHeartbeats 1000000 in
theorem wyesk_any (g : Nat) (b : Bool) (xs : List UInt8) (w : World) (hW : Wrt w g xs) (hlim : xs.length + 10 ≤ 140737488355328) :
    Calls Try.prog 102 #[.pointer (some ⟨g, 0, none⟩), .bool b] w fun e w' => e = .returned (.tuple #[]) ∧ Wrt w' g (xs ++ [if b then 1 else 0]) ∧ Below g w w' ∧ KeepU g w w' := by
  have h1 := (wnumk_any g 1 (by decide) xs w hW hlim)
  have h0 := (wnumk_any g 0 (by decide) xs w hW hlim)
  have e1 := uvarint_bit true
  have e0 := uvarint_bit false
  simp only [if_true, Bool.false_eq_true, if_false] at e1 e0
  rw [e1] at h1
  rw [e0] at h0
  have H1 := Lib.hid h1
  have H0 := Lib.hid h0
  clear h1 h0 e1 e0
  cases b
  · go_enter Try.func102, Try.ntmps102
    go_wp2_with fail
    refine H0.out.mono ?_
    rintro e w1 ⟨rfl, h2, h3, h4⟩
    go_wp2
    go_end0
    exact ⟨rfl, h2, h3, h4⟩
  · go_enter Try.func102, Try.ntmps102
    go_wp2_with fail
    refine H1.out.mono ?_
    rintro e w1 ⟨rfl, h2, h3, h4⟩
    go_wp2
    go_end0
    exact ⟨rfl, h2, h3, h4⟩

set_option maxHeartbeats 1000000 in
theorem wtextk_any (g : Nat) (s : ByteArray) (xs : List UInt8) (w : World) (hW : Wrt w g xs) (hlim : xs.length + 10 + s.size ≤ 140737488355328) :
    Calls Try.prog 103 #[.pointer (some ⟨g, 0, none⟩), .string s] w fun e w' => e = .returned (.tuple #[]) ∧ Wrt w' g (xs ++ Lib.uvarint s.size ++ s.data.toList) ∧ Below g w w' ∧ KeepU g w w' := by
  obtain ⟨i0, hi, hz0, hz1, hz2⟩ := info_parts info_u8
  have hul : (Lib.uvarint s.size).length ≤ 10 := Lib.uvarint_length64 (by omega)
  have H := Lib.hid (wnumk_any g s.size (by omega) xs w hW (by omega))
  go_enter Try.func103, Try.ntmps103
  go_wp2_with fail
  refine H.out.mono ?_
  rintro e w1 ⟨rfl, h2, h3, h4⟩
  have hlt := h2.lt
  obtain ⟨v0, e0, hb, hown⟩ := h2
  have c0 := cell_of_one hb
  have f0 := free_of_one hb
  have HB := Lib.hid hb
  have hxl : (xs ++ Lib.uvarint s.size).length = xs.length + (Lib.uvarint s.size).length := List.length_append
  have HX := Lib.hid hxl
  clear hb hxl
  go_wp2_with (at_builtin; refine wpList_append_own_src rfl (.tmp 15) (.tmp 16) 54 9 rfl (g + 1) 5 i0 (.int .u8 0) 1 1 Try.underlying54 hi hz0 hz1 hz2 rfl _ _ _ rfl hown _ s.size (byteCells s) rfl (Src.ofString _ Try.underlying9 s) ?c3 ?c4 ?c5 ?_)
  case c3 => rw [HX.out]; unfold maxLen; omega
  case c4 => rw [HX.out]; omega
  case c5 => omega
  intro v' w2 hown' hgrow
  have H1 := wrt_grown HB.out hown hgrow
  have HKO := Lib.hid (h4.trans (grown_keeps hown hgrow))
  have H2 : Below g w w2 := h3.trans H1.2
  obtain ⟨a', c', rfl⟩ := own_shape hown'
  have c1 := cell_of_one H1.1
  have f1 := free_of_one H1.1
  have H1b := Lib.hid H1.1
  clear H1 c0 f0 h4
  go_wp2
  go_end0
  refine ⟨rfl, ?_, H2.setCell (Nat.le_refl _) _, HKO.out.trans (KeepU.setCell _ _ _ _)⟩
  refine Wrt.stored H1b.out ?_
  have hsl : s.data.toList.length = s.size := by rw [Array.length_toList]; rfl
  have hfl : (xs ++ Lib.uvarint s.size ++ s.data.toList).length = xs.length + (Lib.uvarint s.size).length + s.size := by rw [List.length_append, HX.out, hsl]
  rw [Lib.byteCells_append (xs ++ Lib.uvarint s.size), hfl]
  exact hown'
end Go.Proofs.Ytenjjgghoacboaa
