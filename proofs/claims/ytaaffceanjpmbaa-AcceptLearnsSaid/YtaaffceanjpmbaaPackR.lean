/-
  BYTES THAT A SLICE HOLDS; bytes.Clone; (*Writer).Bytes; pack.New; and the reference's Num, Text, Yes. No condition but lengths below 2^47.
-/
import Derived.Test.YtaaffceanjpmbaaPackW
import Derived.Laws.BytesArg
namespace Go.Proofs.Ytaaffceanjpmbaa
open Go.RowKit

/-- The slice value v holds the bytes l, in a block below B. -/
def Byt (w : World) (B : Nat) (v : Value) (l : List UInt8) : Prop :=
  ∃ ao cap, v = .slice ao l.length cap ∧ l.length ≤ cap ∧ cap ≤ maxLen ∧ (ao = none → cap = 0) ∧
    (l ≠ [] → ∃ b off, ao = some ⟨b, off, none⟩ ∧ b < B ∧ ∀ j, j < l.length → w.cell? ⟨b, off + j, none⟩ = some (.int .u8 (l.getD j 0).toNat))

theorem Byt.keep {w w' : World} {B : Nat} {v : Value} {l : List UInt8} (h : Byt w B v l) (hb : Below B w w') : Byt w' B v l := by
  obtain ⟨ao, cap, rfl, h1, h2, h3, h4⟩ := h
  refine ⟨ao, cap, rfl, h1, h2, h3, fun hl => ?_⟩
  obtain ⟨b, off, rfl, hbB, hc⟩ := h4 hl
  exact ⟨b, off, rfl, hbB, fun j hj => (hb.cell (p := ⟨b, off + j, none⟩) hbB).trans (hc j hj)⟩

theorem Byt.mono {w : World} {B B' : Nat} {v : Value} {l : List UInt8} (h : Byt w B v l) (hB : B ≤ B') : Byt w B' v l := by
  obtain ⟨ao, cap, rfl, h1, h2, h3, h4⟩ := h
  refine ⟨ao, cap, rfl, h1, h2, h3, fun hl => ?_⟩
  obtain ⟨b, off, rfl, hbB, hc⟩ := h4 hl
  exact ⟨b, off, rfl, by omega, hc⟩

theorem Byt.none (w : World) (B : Nat) : Byt w B (.slice none 0 0) [] := ⟨_, _, rfl, Nat.le_refl _, Nat.zero_le _, fun _ => rfl, fun h => absurd rfl h⟩

theorem byteCells_get (l : List UInt8) (j : Nat) (hj : j < l.length) : (Lib.byteCells l)[j]? = some (.int .u8 (l.getD j 0).toNat) := by
  simp [Lib.byteCells, hj]

theorem byt_own {w : World} {base B : Nat} {v : Value} {n : Nat} {l : List UInt8} (h : w.ownsRow base 5 1 v n (Lib.byteCells l)) (hB : w.heap.size ≤ B) : Byt w B v l := by
  have hn : l.length = n := by have := h.1; rw [Lib.byteCells_length] at this; omega
  subst hn
  rcases h.2 with ⟨rfl, h0⟩ | ⟨g, cap, cur, rfl, hg, hh, hnc, hcm, hcs, htake⟩
  · have : l = [] := List.eq_nil_of_length_eq_zero h0
    subst this
    exact Byt.none _ _
  · refine ⟨_, _, rfl, hnc, hcm, fun e => by simp at e, fun hl => ⟨g, 0, rfl, by have := lt_of_block hh; omega, fun j hj => ?_⟩⟩
    have := h.cells (g := g) rfl j _ (byteCells_get l j hj)
    rw [Addr.add_lit] at this
    exact this

theorem byt_lit (w : World) (l : List UInt8) (e : TypeId) (fr : Nat × Nat) (n : Nat) (hn : l.length = n) (hm : n ≤ maxLen) : Byt (w.alloc (.cells (Lib.byteCells l).toArray e fr)) (w.heap.size + 1) (.slice (some ⟨w.heap.size, 0, none⟩) n n) l := by
  subst hn
  refine ⟨_, _, rfl, Nat.le_refl _, hm, fun e => by simp at e, fun _ => ⟨_, _, rfl, by omega, fun j hj => ?_⟩⟩
  rw [Nat.zero_add, cell_of_row _ _ _ _ _ _ (heap_alloc_new w _), List.getElem?_toArray]
  exact byteCells_get l j hj

/-- What a slice of bytes gives an append. -/
theorem src_byt {w : World} {b off cap : Nat} {l : List UInt8} (hc : ∀ j, j < l.length → w.cell? ⟨b, off + j, none⟩ = some (.int .u8 (l.getD j 0).toNat)) :
    Src Try.prog 1 42 (.slice (some ⟨b, off, none⟩) l.length cap) l.length (Lib.byteCells l) w :=
  Src.ofSlice _ Try.underlying42 ⟨b, off, none⟩ l.length cap (Lib.byteCells l) (by rw [Lib.byteCells_length]; omega)
    (by
      intro j u hu
      have hj : j < l.length := by have := (List.getElem?_eq_some_iff.1 hu).1; rwa [Lib.byteCells_length] at this
      rw [byteCells_get l j hj] at hu
      rw [Addr.add_lit, hc j hj]
      exact hu)
    (by intro u hu; obtain ⟨_, _, rfl⟩ := List.mem_map.1 hu; rfl)

theorem src_empty (w : World) (a : Addr) (cap : Nat) : Src Try.prog 1 42 (.slice (some a) 0 cap) 0 [] w :=
  Src.ofSlice _ Try.underlying42 a 0 cap [] rfl (by intro j u hj; simp at hj) (by intro u hu; cases hu)

theorem byt_src {w : World} {B : Nat} {a : Addr} {cap n : Nat} {l : List UInt8} (h : Byt w B (.slice (some a) n cap) l) : Src Try.prog 1 42 (.slice (some a) n cap) n (Lib.byteCells l) w := by
  obtain ⟨ao, cap', he, h1, h2, h3, h4⟩ := h
  simp only [Value.slice.injEq] at he
  obtain ⟨rfl, rfl, rfl⟩ := he
  by_cases hl : l = []
  · subst hl; exact src_empty w a cap
  · obtain ⟨b, off, he, _, hc⟩ := h4 hl
    obtain rfl := Option.some.inj he
    exact src_byt hc

set_option maxHeartbeats 1000000 in
theorem clone_some (a : Addr) (n c B : Nat) (l : List UInt8) (w : World) (hB : Byt w B (.slice (some a) n c) l) (hBw : B ≤ w.heap.size) (hlim : n ≤ 140737488355328) :
    Calls Try.prog 70 #[.slice (some a) n c] w fun e w' => ∃ v', e = .returned v' ∧ w'.ownsRow w.heap.size 5 1 v' n (Lib.byteCells l) ∧ Below w.heap.size w w' := by
  obtain ⟨i0, hi, hz0, hz1, hz2⟩ := info_parts info_u8
  have q22 : ∀ (w : World) (a : Option Addr) (n c n' c' : Nat), (binOp .eql 42 (.slice a n c) (.slice none n' c')).run Try.prog w = .ok (.bool a.isNone) w := fun w a n c n' c' => Lib.run_eql_slice_nil w _ _ a n c n' c' Try.underlying42
  have HS := Lib.hid (byt_src (hB.keep (((Below.refl _ _).alloc (Nat.le_refl _) (.cells #[] 5)).mono hBw)))
  clear hB
  go_enter Try.func70, Try.ntmps70
  go_wp2_with (at_builtin; refine wpList_append_own_src rfl (.tmp 5) (.tmp 6) 42 42 rfl w.heap.size 5 i0 (.int .u8 0) 1 1 Try.underlying42 hi hz0 hz1 hz2 rfl _ _ _ rfl (World.ownsRow_made w #[] 0 (Nat.le_refl _) (Nat.zero_le _) rfl) _ n (Lib.byteCells l) rfl HS.out ?c3 ?c4 ?c5 ?_)
  case c3 => unfold maxLen; omega
  case c4 => omega
  case c5 => simp
  intro v' w1 hown hgrow
  go_wp2
  go_returns
  refine ⟨v', rfl, by simpa using hown, ?_⟩
  exact ((Below.refl _ w).alloc (Nat.le_refl _) _).grown hgrow (by simp) (by intro k hk; simp [Value.ownBlock] at hk; omega)

set_option maxHeartbeats 1000000 in
theorem clone_none (n c : Nat) (w : World) :
    Calls Try.prog 70 #[.slice none n c] w fun e w' => e = .returned (.slice none 0 0) ∧ w = w' := by
  have q22 : ∀ (w : World) (a : Option Addr) (n c n' c' : Nat), (binOp .eql 42 (.slice a n c) (.slice none n' c')).run Try.prog w = .ok (.bool a.isNone) w := fun w a n c n' c' => Lib.run_eql_slice_nil w _ _ a n c n' c' Try.underlying42
  go_enter Try.func70, Try.ntmps70
  go_wp2
  go_returns
  exact ⟨rfl, rfl⟩

theorem clone_any (v : Value) (B : Nat) (l : List UInt8) (w : World) (hB : Byt w B v l) (hBw : B ≤ w.heap.size) (hlim : l.length ≤ 140737488355328) :
    Calls Try.prog 70 #[v] w fun e w' => ∃ v', e = .returned v' ∧ w'.ownsRow w.heap.size 5 1 v' l.length (Lib.byteCells l) ∧ Below w.heap.size w w' := by
  have hB' := hB
  obtain ⟨ao, cap, rfl, h1, h2, h3, h4⟩ := hB
  cases ao with
  | some a => exact clone_some a _ cap B l w hB' hBw hlim
  | none =>
    have hl : l = [] := List.eq_nil_of_length_eq_zero (by have := h3 rfl; omega)
    subst hl
    exact (clone_none _ _ w).mono fun e w' ⟨he, hw⟩ => by subst hw; exact ⟨_, he, World.ownsRow_nil _ _ _ _, Below.refl _ _⟩

theorem wrt_byt {w : World} {g : Nat} {xs : List UInt8} (h : Wrt w g xs) : ∃ v, w.cell? ⟨g, 0, none⟩ = some v ∧ Byt w w.heap.size v xs := by
  obtain ⟨v, e, hb, hown⟩ := h
  exact ⟨v, cell_of_one hb, byt_own hown (Nat.le_refl _)⟩

set_option maxHeartbeats 1000000 in
theorem wbytes_any (g : Nat) (xs : List UInt8) (w : World) (hW : Wrt w g xs) (hlim : xs.length ≤ 140737488355328) :
    Calls Try.prog 41 #[.pointer (some ⟨g, 0, none⟩)] w fun e w' => ∃ v', e = .returned v' ∧ w'.ownsRow w.heap.size 5 1 v' xs.length (Lib.byteCells xs) ∧ Below w.heap.size w w' := by
  obtain ⟨v, c0, hB⟩ := wrt_byt hW
  have H := Lib.hid (clone_any v _ xs w hB (Nat.le_refl _) hlim)
  clear hB hW
  go_enter Try.func41, Try.ntmps41
  go_wp2_with fail
  refine H.out.mono ?_
  rintro e w1 ⟨v', rfl, h1, h2⟩
  go_wp2
  go_returns
  exact ⟨v', rfl, h1, h2⟩

/-- A slice value whose address, if there is one, is a block's cell. -/
def Plain (lo : Nat) (v : Value) : Prop := v = .slice none 0 0 ∨ ∃ b off n cap, v = .slice (some ⟨b, off, none⟩) n cap ∧ lo ≤ b

theorem plain_lo {lo b off n cap : Nat} (h : Plain lo (.slice (some ⟨b, off, none⟩) n cap)) : lo ≤ b := by
  rcases h with h | ⟨b', off', n', cap', h, hl⟩
  · simp at h
  · simp only [Value.slice.injEq, Option.some.injEq, Addr.mk.injEq] at h
    rw [h.1.1]; exact hl

theorem plain_mono {lo lo' : Nat} {v : Value} (h : Plain lo v) (hl : lo' ≤ lo) : Plain lo' v := by
  rcases h with h | ⟨b', off', n', cap', h, hb⟩
  · exact .inl h
  · exact .inr ⟨b', off', n', cap', h, by omega⟩

theorem own_plain {w : World} {base : Nat} {e : TypeId} {size : Nat} {v : Value} {n : Nat} {xs : List Value} (h : w.ownsRow base e size v n xs) : Plain base v := by
  rcases h.2 with ⟨rfl, rfl⟩ | ⟨g, cap, cur, rfl, hg, _⟩
  · exact .inl rfl
  · exact .inr ⟨_, _, _, _, rfl, hg⟩

/-- Block h is a reader: 'some l': it is right and l is left, in a block from lo on; 'none': it is wrong. -/
def RdrL (lo : Nat) (w : World) (h : Nat) : Option (List UInt8) → Prop
  | some l => ∃ v e, w.heap[h]? = some (.cells #[v, .bool false] e (0, 0)) ∧ Byt w h v l ∧ Plain lo v
  | none => ∃ v e, w.heap[h]? = some (.cells #[v, .bool true] e (0, 0))

theorem RdrL.lt {lo : Nat} {w : World} {h : Nat} {st : Option (List UInt8)} (hR : RdrL lo w h st) : h < w.heap.size := by
  cases st with
  | some l => obtain ⟨_, _, hb, _⟩ := hR; exact lt_of_block hb
  | none => obtain ⟨_, _, hb⟩ := hR; exact lt_of_block hb

theorem RdrL.mono {lo lo' : Nat} {w : World} {h : Nat} {st : Option (List UInt8)} (hR : RdrL lo w h st) (hl : lo' ≤ lo) : RdrL lo' w h st := by
  cases st with
  | some l => obtain ⟨v, e, hb, h1, h2⟩ := hR; exact ⟨v, e, hb, h1, plain_mono h2 hl⟩
  | none => exact hR

theorem RdrL.keep {lo : Nat} {w w' : World} {h : Nat} {st : Option (List UInt8)} (hR : RdrL lo w h st) (hb : Below (h + 1) w w') : RdrL lo w' h st := by
  cases st with
  | some l => obtain ⟨v, e, h1, h2⟩ := hR; exact ⟨v, e, (hb.block h (by omega)).trans h1, h2.1.keep (hb.mono (by omega)), h2.2⟩
  | none => obtain ⟨v, e, h1⟩ := hR; exact ⟨v, e, (hb.block h (by omega)).trans h1⟩

theorem RdrL.below {lo : Nat} {w w' : World} {h : Nat} {st : Option (List UInt8)} (hR : RdrL lo w h st) (hb : Below w.heap.size w w') : RdrL lo w' h st :=
  hR.keep (hb.mono hR.lt)

/-- A reader stands while another block below its bytes, or above it, is written. -/
theorem RdrL.other {lo : Nat} {w w' : World} {h k : Nat} {st : Option (List UInt8)} (hR : RdrL lo w h st) (hg : w.grownBy w' (some k)) (hk : k ≠ h) (hlo : k < lo ∨ h < k) : RdrL lo w' h st := by
  have hlt := hR.lt
  have hh : w'.heap[h]? = w.heap[h]? := hg.block h hlt (fun e => hk (Option.some.inj e).symm)
  cases st with
  | some l =>
    obtain ⟨v, e, h1, ⟨ao, cap, rfl, g1, g2, g3, g4⟩, hp⟩ := hR
    refine ⟨_, e, hh.trans h1, ⟨ao, cap, rfl, g1, g2, g3, fun hl => ?_⟩, hp⟩
    obtain ⟨b, off, rfl, hb, hc⟩ := g4 hl
    have hbk := plain_lo hp
    exact ⟨b, off, rfl, hb, fun j hj => (World.cell?_of_block (a := ⟨b, off + j, none⟩) (hg.block b (by omega) (fun e => by have := Option.some.inj e; omega))).trans (hc j hj)⟩
  | none => obtain ⟨v, e, h1⟩ := hR; exact ⟨v, e, hh.trans h1⟩

set_option maxHeartbeats 1000000 in
theorem new_any (v : Value) (B : Nat) (l : List UInt8) (w : World) (hB : Byt w B v l) (hBw : B ≤ w.heap.size) (hlim : l.length ≤ 140737488355328) :
    Calls Try.prog 45 #[v] w fun e w' => ∃ h, e = .returned (.pointer (some ⟨h, 0, none⟩)) ∧ w.heap.size ≤ h ∧ RdrL w.heap.size w' h (some l) ∧ Below w.heap.size w w' := by
  have H := Lib.hid (clone_any v _ l w hB hBw hlim)
  clear hB
  go_enter Try.func45, Try.ntmps45
  go_wp2_with fail
  refine H.out.mono ?_
  rintro e w1 ⟨v', rfl, h1, h2⟩
  have hp := Lib.hid (own_plain h1)
  obtain ⟨a', c', rfl⟩ := own_shape h1
  go_wp2
  go_returns
  refine ⟨_, rfl, h2.size, ⟨_, _, heap_alloc_new w1 _, ?_, hp.out⟩, h2.alloc h2.size _⟩
  exact (byt_own h1 (Nat.le_refl _)).keep ((Below.refl _ _).alloc (Nat.le_refl _) _)

/-! ### the reference's Num, Text, Yes -/

set_option maxRecDepth 100000 in
theorem run_conv_byt {w : World} {B : Nat} {v : Value} {l : List UInt8} (h : Byt w B v l) : (convert 42 9 v).run Try.prog w = .ok (.string ⟨l.toArray⟩) w := by
  obtain ⟨ao, cap, rfl, h1, h2, h3, h4⟩ := h
  cases ao with
  | none =>
    have hl : l = [] := List.eq_nil_of_length_eq_zero (by have := h3 rfl; omega)
    subst hl
    exact run_convert_bytes_nil w _ _ Try.underlying42 Try.underlying5 _ _ _ Try.underlying9
  | some a =>
    by_cases hl : l = []
    · subst hl
      rw [run_convert_bytes_string w _ _ _ _ _ _ Try.underlying42 Try.underlying5 Try.underlying9]
      rw [run_bytesToString w a _ _ [] (by simp [loadCells, loadCellsFrom])]
      rfl
    · obtain ⟨b, off, he, _, hc⟩ := h4 hl
      obtain rfl := Option.some.inj he
      have := run_convert_bytes_arg (P := Try.prog) w 42 5 Try.underlying42 Try.underlying5 b off l.length cap (l.map fun c => (c.toNat : Int)) (by simp)
        (fun i hi => by rw [hc i hi]; simp [List.getD, hi]) 9 Try.underlying9
      rw [this]
      congr 2
      unfold strOfNums
      congr 2
      rw [List.map_map]
      conv => rhs; rw [← List.map_id l]
      apply List.map_congr_left
      intro c _
      simp

set_option maxHeartbeats 1000000 in
set_option maxRecDepth 100000 in
theorem refnum_any (v : Nat) (hv : v < 18446744073709551616) (w : World) :
    Calls Try.prog 91 #[.int .u64 v] w fun e w' => e = .returned (.string ⟨(Lib.uvarint v).toArray⟩) ∧ Below w.heap.size w w' := by
  obtain ⟨i0, hi, hz0, hz1, hz2⟩ := info_parts info_u8
  have hlen := Lib.uvarint_length64 hv
  go_enter Try.func91, Try.ntmps91
  go_wp2
  go_loopw [0, 3] (fun vx vo wr => ∃ (y : Nat) (pre : List UInt8), vx = .int .u64 y ∧ y ≤ v ∧ Lib.uvarint v = pre ++ Lib.uvarint y ∧ wr.ownsRow w.heap.size 5 1 vo pre.length (Lib.byteCells pre) ∧ Below w.heap.size w wr)
    (fun vx _ _ => (intOf vx).toNat)
  case atStart => exact ⟨v, [], rfl, Nat.le_refl _, rfl, World.ownsRow_nil _ _ _ _, Below.refl _ _⟩
  case round =>
    obtain ⟨y, pre, rfl, hy, hsplit, hown, hnx⟩ := hrel
    have hpl : pre.length + (Lib.uvarint y).length ≤ 10 := by
      have h2 := congrArg List.length hsplit
      rw [List.length_append] at h2
      omega
    have hyp := Lib.uvarint_pos y
    have hsz := hnx.size
    have HS := Lib.hid hsplit
    clear hsplit
    by_cases h128 : 128 ≤ y
    · have hor := or128_y y
      go_wp2_with (at_builtin; refine wpList_append_own_src rfl (.tmp 6) (.tmp 10) 42 42 rfl w.heap.size 5 i0 (.int .u8 0) 1 1 Try.underlying42 hi hz0 hz1 hz2 rfl _ _ _ rfl (hown.alloc _) _ 1 [Value.int .u8 ((y % 128 + 128 : Nat) : Int)] rfl (src_one wr _ _ rfl) ?c3 ?c4 ?c5 ?_)
      case c3 => unfold maxLen; omega
      case c4 => omega
      case c5 => simp; omega
      intro v' w1 hown' hgrow
      have H2 : Below w.heap.size w w1 := (hnx.alloc hsz _).grown hgrow (by simp; omega) (fun k hk => (hown.lt k hk).1)
      clear hor
      go_wp2
      go_roundw
      case rel =>
        refine ⟨y / 128, pre ++ [(y % 128 + 128).toUInt8], by go_num, by omega, by rw [HS.out, Lib.uvarint_big h128]; simp, ?_, H2⟩
        have ec : Lib.byteCells (pre ++ [(y % 128 + 128).toUInt8]) = Lib.byteCells pre ++ [Value.int .u8 ((y % 128 + 128 : Nat) : Int)] := Lib.byteCells_snoc _ (by omega)
        rw [ec, List.length_append, List.length_singleton, show ((y % 128 + 128 : Nat) : Int) = (y : Int) % 128 + 128 by omega]
        exact hown'
      case measure => simp [intOf]; omega
    · have hsm : Lib.uvarint y = [y.toUInt8] := Lib.uvarint_small (by omega)
      have HM := Lib.hid hsm
      clear hsm
      go_wp2_with (at_builtin; refine wpList_append_own_src rfl (.tmp 14) (.tmp 17) 42 42 rfl w.heap.size 5 i0 (.int .u8 0) 1 1 Try.underlying42 hi hz0 hz1 hz2 rfl _ _ _ rfl (hown.alloc _) _ 1 [Value.int .u8 (y : Int)] rfl (src_one wr _ _ rfl) ?c3 ?c4 ?c5 ?_)
      case c3 => unfold maxLen; omega
      case c4 => omega
      case c5 => simp; omega
      intro v' w1 hown' hgrow
      have H2 : Below w.heap.size w w1 := (hnx.alloc hsz _).grown hgrow (by simp; omega) (fun k hk => (hown.lt k hk).1)
      have ec : Lib.byteCells (pre ++ [y.toUInt8]) = Lib.byteCells pre ++ [Value.int .u8 (y : Int)] := Lib.byteCells_snoc _ (by omega)
      rw [← ec] at hown'
      have hk := run_conv_byt (byt_own hown' (Nat.le_refl _))
      clear ec
      go_wp2
      go_returns
      exact ⟨by rw [HS.out, HM.out]; rfl, H2⟩

set_option maxHeartbeats 1000000 in
theorem reftext_any (s : ByteArray) (w : World) (hs : s.size ≤ 140737488355328) :
    Calls Try.prog 75 #[.string s] w fun e w' => e = .returned (.string ⟨(Lib.uvarint s.size ++ s.data.toList).toArray⟩) ∧ Below w.heap.size w w' := by
  have hul : (Lib.uvarint s.size).length ≤ 10 := Lib.uvarint_length64 (by omega)
  have H := Lib.hid (refnum_any s.size (by omega) w)
  go_enter Try.func75, Try.ntmps75
  go_wp2_with fail
  refine H.out.mono ?_
  rintro e w1 ⟨rfl, h2⟩
  have hsz : (ByteArray.mk (Lib.uvarint s.size).toArray).size = (Lib.uvarint s.size).length := List.size_toArray
  have ha : (Op.stringOp .add ⟨(Lib.uvarint s.size).toArray⟩ s).run Try.prog w1 = .ok (.string ⟨(Lib.uvarint s.size ++ s.data.toList).toArray⟩) w1 := by
    rw [run_string_add_sum w1 _ _ (by rw [hsz]; omega)]
    have : (ByteArray.mk (Lib.uvarint s.size).toArray ++ s) = ⟨(Lib.uvarint s.size ++ s.data.toList).toArray⟩ := by
      apply ByteArray.ext
      simp [ByteArray.data_append]
    rw [this]
  clear hsz
  go_wp2
  go_returns
  exact ⟨rfl, h2⟩

set_option maxHeartbeats 400000 in
theorem refyes_any (b : Bool) (w : World) : Calls Try.prog 78 #[.bool b] w fun e w' => e = .returned (.string ⟨#[if b then 1 else 0]⟩) ∧ w = w' := by
  cases b <;>
  · go_enter Try.func78, Try.ntmps78
    go_wp2
    go_returns
    exact ⟨rfl, rfl⟩

end Go.Proofs.Ytaaffceanjpmbaa
