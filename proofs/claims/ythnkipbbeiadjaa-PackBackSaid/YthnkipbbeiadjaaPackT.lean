/-
  told: the few answers that every statement of package pack asks besides: it answers true, whatever the memory, and touches nothing that was there.
-/
import Derived.Test.YthnkipbbeiadjaaPackQ
import Derived.Test.YthnkipbbeiadjaaPackC
import Derived.Lib.SlBytesConst
namespace Go.Proofs.Ythnkipbbeiadjaa
open Go.RowKit

theorem uv300 : Lib.uvarint 300 = [172, 2] := by
  rw [Lib.uvarint_big (by decide), Lib.uvarint_small (by decide)]
  rfl
theorem uv2 : Lib.uvarint 2 = [2] := by
  rw [Lib.uvarint_small (by decide)]
  rfl

theorem told_r1 : rNum 300 (some [172, 2, 2, 97, 98, 1]) = (300, some [2, 97, 98, 1]) := by decide
theorem told_r2 : rText 2 (some [2, 97, 98, 1]) = ([97, 98], some [1]) := by decide
theorem told_r3 : rYes (some [1]) = (true, some []) := by decide
theorem told_r5 : rNum 5 (some []) = (0, none) := by decide
theorem told_crc : crcOf [49, 50, 51, 52, 53, 54, 55, 56, 57] = 3421780262 := by kernel_rfl

theorem byt_lit (w : World) (l : List UInt8) (e : TypeId) (fr : Nat × Nat) (n : Nat) (hn : l.length = n) (hm : n ≤ maxLen) : Byt (w.alloc (.cells (Lib.byteCells l).toArray e fr)) (w.heap.size + 1) (.slice (some ⟨w.heap.size, 0, none⟩) n n) l := by
  subst hn
  refine ⟨_, _, rfl, Nat.le_refl _, hm, fun e => by simp at e, fun _ => ⟨_, _, rfl, by omega, fun j hj => ?_⟩⟩
  rw [Nat.zero_add, cell_of_row _ _ _ _ _ _ (heap_alloc_new w _), List.getElem?_toArray]
  exact byteCells_get l j hj

set_option maxHeartbeats 4000000 in
set_option maxRecDepth 100000 in
theorem told_any (w : World) : Calls Try.prog 11 #[] w fun e w' => e = .returned (.bool true) ∧ Below w.heap.size w w' := by
  have kc := fun (w : World) (C : Array Value) (n c : Nat) => Lib.run_convert_bytes_const (P := Try.prog) w 24 5 C n c Try.underlying24 Try.underlying5
  go_enter Try.func11, Try.ntmps11
  go_wp2_with fail
  have hW0 := Wrt.fresh w 26
  have hB0 : Below w.heap.size w (w.alloc (.cells #[.slice none 0 0] 26)) := (Below.refl _ _).alloc (Nat.le_refl _) _
  refine (wnum_any w.heap.size 300 (by decide) [] _ hW0 (by decide)).mono ?_
  rintro e w1 ⟨rfl, hW1, hb⟩
  rw [uv300] at hW1
  have hB1 := Lib.hid (hB0.trans hb)
  clear hb hB0 hW0
  go_wp2_with fail
  refine (wtext_any w.heap.size ⟨#[97, 98]⟩ _ _ hW1 (by decide)).mono ?_
  rintro e w2 ⟨rfl, hW2, hb⟩
  rw [show (ByteArray.mk #[97, 98]).size = 2 from rfl, uv2] at hW2
  have hB2 := Lib.hid (hB1.out.trans hb)
  clear hb hB1 hW1
  go_wp2_with fail
  refine (wyes_any w.heap.size true _ _ hW2 (by decide)).mono ?_
  rintro e w3 ⟨rfl, hW3, hb⟩
  have hB3 := Lib.hid (hB2.out.trans hb)
  clear hb hB2 hW2
  go_wp2_with fail
  have hW3' : Wrt w3 w.heap.size [172, 2, 2, 97, 98, 1] := hW3
  clear hW3
  refine (wbytes_any w.heap.size _ _ hW3' (by decide)).mono ?_
  rintro e w4 ⟨v4, rfl, hown, hb⟩
  have hs3 := hB3.out.size
  have hB4 := Lib.hid (hB3.out.trans (hb.mono hs3))
  have hby := byt_own hown (Nat.le_refl _)
  clear hb hB3 hW3' hown hs3
  go_wp2_with fail
  refine (new_any v4 _ _ _ hby (Nat.le_refl _) (by decide)).mono ?_
  rintro e w5 ⟨h, rfl, hh, hR, hb⟩
  have hs4 := hB4.out.size
  have hB5 := Lib.hid (hB4.out.trans (hb.mono hs4))
  have hby5 := hby.keep hb
  have hk := run_conv_byt hby5
  have hwh : w.heap.size ≤ h := by omega
  clear hb hB4 hby hby5 hs4
  have L6 : ∀ l, some [172, 2, 2, 97, 98, (1 : UInt8)] = some l → l.length ≤ 140737488355328 := by intro l hl; cases hl; decide
  have C1 := rnum_any h _ 300 w5 hR L6
  rw [told_r1] at C1
  have HC1 := Lib.hid C1
  have hlt := hR.lt
  clear C1 L6 hR
  go_wp2_with fail
  refine HC1.out.mono ?_
  rintro e w6 ⟨rfl, hR, hg⟩
  have hB6 := Lib.hid (hB5.out.trans (grown_below hg hwh hlt))
  clear hg hB5 HC1 hk hlt
  have L6 : ∀ l, some [2, 97, 98, (1 : UInt8)] = some l → l.length ≤ 140737488355328 := by intro l hl; cases hl; decide
  have C1 := rtext_any h _ 2 2 (by decide) (.inr rfl) w6 hR L6
  rw [told_r2] at C1
  have HC1 := Lib.hid C1
  have hlt := hR.lt
  clear C1 L6 hR
  go_wp2_with fail
  refine HC1.out.mono ?_
  rintro e w7 ⟨rfl, hR, hg⟩
  have hB7 := Lib.hid (hB6.out.trans (grown_below hg hwh hlt))
  clear hg hB6 HC1 hlt
  have L6 : ∀ l, some [(1 : UInt8)] = some l → l.length ≤ 140737488355328 := by intro l hl; cases hl; decide
  have C1 := ryes_any h _ w7 hR L6
  rw [told_r3] at C1
  have HC1 := Lib.hid C1
  have hlt := hR.lt
  clear C1 L6 hR
  go_wp2_with fail
  refine HC1.out.mono ?_
  rintro e w8 ⟨rfl, hR, hg⟩
  have hB8 := Lib.hid (hB7.out.trans (grown_below hg hwh hlt))
  clear hg hB7 HC1 hlt
  have L6 : ∀ l, some ([] : List UInt8) = some l → l.length ≤ 140737488355328 := by intro l hl; cases hl; decide
  have HC1 := Lib.hid (rend_any h _ w8 hR L6)
  clear L6 hR
  go_wp2_with fail
  refine HC1.out.mono ?_
  rintro e w' ⟨rfl, rfl⟩
  clear HC1
  go_wp2_with fail
  have hs8 := hB8.out.size
  have C2 := crc_any _ _ [49, 50, 51, 52, 53, 54, 55, 56, 57] _ (byt_lit w8 [49, 50, 51, 52, 53, 54, 55, 56, 57] 5 (9, 10) 9 rfl (by decide)) (by simp) (by decide)
  rw [told_crc] at C2
  refine C2.mono ?_
  rintro e w9 ⟨rfl, hb⟩
  have hB9 := Lib.hid ((hB8.out.alloc hs8 _).trans (hb.mono (by simp; omega)))
  clear hb hB8 C2 hs8
  go_wp2_with fail
  refine (new_any (.slice none 0 0) 0 [] w9 (Byt.none _ _) (Nat.zero_le _) (by decide)).mono ?_
  rintro e w10 ⟨h2, rfl, hh2, hR, hb⟩
  have hs9 := hB9.out.size
  have hB10 := Lib.hid (hB9.out.trans (hb.mono hs9))
  have L6 : ∀ l, some ([] : List UInt8) = some l → l.length ≤ 140737488355328 := by intro l hl; cases hl; decide
  have C1 := rnum_any h2 _ 5 w10 hR L6
  rw [told_r5] at C1
  have HC1 := Lib.hid C1
  have hlt := hR.lt
  clear C1 L6 hR hb hB9
  go_wp2_with fail
  refine HC1.out.mono ?_
  rintro e w11 ⟨rfl, _, hg⟩
  have hB11 := Lib.hid (hB10.out.trans (grown_below hg (by omega) hlt))
  clear hg hB10 HC1 hlt
  go_wp2
  go_returns
  exact ⟨rfl, hB11.out⟩
end Go.Proofs.Ythnkipbbeiadjaa
