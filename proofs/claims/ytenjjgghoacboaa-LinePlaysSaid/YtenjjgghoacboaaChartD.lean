/-
  THE PROGRAM's Do, of any versions (at most a million), any request, any quota.
-/
import Derived.Test.YtenjjgghoacboaaChartA
namespace Go.Proofs.Ytenjjgghoacboaa
open Go.RowKit

/-- What a Do tells. -/
def Does (L : List VerV) (l : List Int) (c r : Int) (d : ByteArray) (w : World) (e : Ending) (w' : World) : Prop :=
  ∃ av ac ao cap, e = .returned (.tuple #[.slice av L.length ac, .agg #[.int .i64 c, .int .i64 r, .string d, .slice ao l.length cap]]) ∧ Vers w' w'.heap.size (.slice av L.length ac) L ∧ Ints w' w'.heap.size (.slice ao l.length cap) l ∧ Below w.heap.size w w'

theorem stored_size (W : World) (R : Nat) (c n : Int) (d : ByteArray) (u : Value) : (stored W R c n d u).heap.size = W.heap.size := by simp [stored]
theorem stored_cell {W : World} {R b : Nat} (h : b ≠ R) (c n : Int) (d : ByteArray) (u : Value) (o : Nat) : (stored W R c n d u).cell? ⟨b, o, none⟩ = W.cell? ⟨b, o, none⟩ := by
  unfold stored
  have hq : ∀ (w : World) (k : Nat) (u : Value), (w.setCell ⟨R, k, none⟩ u).cell? ⟨b, o, none⟩ = w.cell? ⟨b, o, none⟩ := fun w k u => World.cell?_of_block (Below.heap_setCell _ _ _ _ h)
  rw [hq, hq, hq, hq]
theorem vers_stored {W : World} {R : Nat} {av : Option Addr} {n ac : Nat} {L : List VerV} (hV : Vers W W.heap.size (.slice av n ac) L) (h : ∀ a, av = some a → a.block ≠ R) (c r : Int) (d : ByteArray) (u : Value) : Vers (stored W R c r d u) (stored W R c r d u).heap.size (.slice av n ac) L := by
  obtain ⟨ao', cap', he, h1, h2, h3, h4⟩ := hV
  simp only [Value.slice.injEq] at he
  obtain ⟨rfl, rfl, rfl⟩ := he
  refine ⟨av, ac, rfl, h1, h2, h3, fun hl => ?_⟩
  obtain ⟨b, off, rfl, hbB, hc⟩ := h4 hl
  have hbR := h _ rfl
  refine ⟨b, off, rfl, by rw [stored_size]; exact hbB, fun j hj => ?_⟩
  rw [stored_cell hbR, stored_cell hbR]
  exact hc j hj

theorem src_ver1 (u : World) (g : Bool) (d : ByteArray) : Src Try.prog 2 112 (.slice (some ⟨u.heap.size, 0, none⟩) 1 1) 1 (verCells [⟨g, d⟩]) (u.alloc (.cells #[.bool g, .string d] 121)) := by
  refine Src.ofSlice _ Try.underlying112 ⟨u.heap.size, 0, none⟩ 1 1 (verCells [⟨g, d⟩]) rfl ?_ ?_
  · intro j x hj
    have hb := heap_alloc_new u (.cells #[.bool g, .string d] 121)
    match j, hj with
    | 0, hj => simp [verCells] at hj; subst hj; exact cell_of_row _ _ 0 _ _ _ hb
    | 1, hj => simp [verCells] at hj; subst hj; exact cell_of_row _ _ 1 _ _ _ hb
  · intro x hx
    rcases mem_verCells hx with ⟨_, rfl⟩ | ⟨_, rfl⟩ <;> rfl

set_option maxRecDepth 100000 in
set_option maxHeartbeats 1000000 in
theorem do_ask (v : Value) (L : List VerV) (n : Nat) (cl sq kd id mt : Int) (dt : ByteArray) (quota c r : Int) (d : ByteArray) (l : List Int) (w : World) (hn : L.length = n)
    (HK : Hid (∀ u, Below w.heap.size w u → Calls Try.prog 118 #[v] u fun e w' => ∃ v', e = .returned v' ∧ w'.ownsRow u.heap.size 121 2 v' n (verCells L) ∧ Below u.heap.size u w'))
    (HW : Hid (∀ u, Calls Try.prog 119 #[.agg #[.int .i64 cl, .int .i64 sq, .int .i64 kd, .int .i64 id, .int .i64 mt, .string dt]] u fun e w' => e = .returned (.bool false) ∧ Below u.heap.size u w'))
    (HA : Hid (∀ u, Below w.heap.size w u → Calls Try.prog 105 #[v, .agg #[.int .i64 cl, .int .i64 sq, .int .i64 kd, .int .i64 id, .int .i64 mt, .string dt]] u (Tells l c r d u))) :
    Calls Try.prog 98 #[v, .agg #[.int .i64 cl, .int .i64 sq, .int .i64 kd, .int .i64 id, .int .i64 mt, .string dt], .int .i64 quota] w (Does L l c r d w) := by
  have HN := Lib.hid hn
  clear hn
  go_enter Try.func98, Try.ntmps98
  go_wp2_with fail
  refine (HK.out _ (by go_grown)).mono ?_
  rintro e w1 ⟨v', rfl, O1, B1⟩
  have C1 : Hid (Below w.heap.size w w1) := (((Below.refl _ w).alloc (Nat.le_refl _) _).alloc (by simp) _).trans (B1.mono (by simp; omega))
  have R1 : Hid (RepAt w1 (w.heap.size + 1) 0 0 ⟨#[]⟩ (.slice none 0 0)) := RepAt.keep (RepAt.new1 w _ 0 0 ⟨#[]⟩ (.slice none 0 0)) B1 (by simp)
  have D1 : Hid (ReqB w1 w.heap.size cl sq kd id mt dt) := ((ReqB.fresh w cl sq kd id mt dt 34).keep ((Below.refl (w.heap.size + 1) _).alloc (by simp) _) (by omega)).keep B1 (by simp; omega)
  obtain ⟨a1, k1, rfl⟩ := own_shape O1
  have V1 := Lib.hid (vers_own O1 (Nat.le_refl _))
  have A1 : Hid (∀ a, a1 = some a → w.heap.size + 2 ≤ a.block) := fun a ha => by have := own_lo O1 a ha; simp at this; omega
  clear B1 O1
  obtain ⟨c0, c1, c2, c3, c4, c5⟩ := D1.out.cells
  go_wp2_with fail
  refine (HW.out _).mono ?_
  rintro e w2 ⟨rfl, B2⟩
  have C2 : Hid (Below w.heap.size w w2) := C1.out.trans (B2.mono C1.out.size)
  have R2 : Hid (RepAt w2 (w.heap.size + 1) 0 0 ⟨#[]⟩ (.slice none 0 0)) := R1.out.keep B2 R1.out.lt
  have D2 : Hid (ReqB w2 w.heap.size cl sq kd id mt dt) := D1.out.keep B2 D1.out.lt
  have V2 := Lib.hid (V1.out.on B2)
  clear B2 R1 D1 V1 C1 c0 c1 c2 c3 c4 c5
  obtain ⟨c0, c1, c2, c3, c4, c5⟩ := D2.out.cells
  go_wp2_with fail
  refine (HA.out _ C2.out).mono ?_
  rintro e w3 ⟨ao, cap, rfl, I3, L3, B3⟩
  have C3 : Hid (Below w.heap.size w w3) := C2.out.trans (B3.mono C2.out.size)
  have R3 := R2.out.keep B3 R2.out.lt
  have V3 := Lib.hid (V2.out.on B3)
  have hlt := R2.out.lt
  have HF := Lib.hid (tells_end (c := c) (r := r) (d := d) I3 C3.out (Nat.le_succ w.heap.size) (fun _ a ha => by have := L3 a ha; omega))
  have HE := Lib.hid (rep_stored (c' := c) (n' := r) (d' := d) R3 (.slice ao l.length cap)).cells.1
  have HV := Lib.hid (vers_stored (R := w.heap.size + 1) V3.out (fun a ha => by have := A1.out a ha; omega) c r d (.slice ao l.length cap))
  obtain ⟨⟨d0, d1, d2, d3⟩, ⟨z0, z1, z2, z3⟩⟩ := R3.cells
  clear B3 R3 I3 L3 hlt c0 c1 c2 c3 c4 c5 V2 V3 R2 D2 C2
  generalize hn : l.length = m
  rw [hn] at HE HV
  have HM := Lib.hid hn
  clear hn
  go_wp2
  obtain ⟨e0, e1, e2, e3⟩ := HE.out
  unfold stored at e0 e1 e2 e3
  refine bodyPost_ret (v := .tuple #[.slice a1 n k1, .agg #[.int .i64 c, .int .i64 r, .string d, .slice ao m cap]]) (by simp [results, Try.results98, go_sem, e0, e1, e2, e3]) rfl ⟨a1, k1, ao, cap, by rw [HN.out, HM.out], ?_⟩
  have hf := HF.out
  rw [← HM.out, HN.out]
  refine ⟨?_, hf.1, hf.2⟩
  rw [HM.out]
  exact HV.out

set_option maxRecDepth 100000 in
set_option maxHeartbeats 1000000 in
theorem do_not (v : Value) (L : List VerV) (n : Nat) (cl sq kd id mt : Int) (dt : ByteArray) (quota c : Int) (w : World) (hn : L.length = n) (_ : n ≤ 1000000)
    (hv : ∃ ao cap, v = .slice ao n cap) (hc : c ≠ 1)
    (HK : Hid (∀ u, Below w.heap.size w u → Calls Try.prog 118 #[v] u fun e w' => ∃ v', e = .returned v' ∧ w'.ownsRow u.heap.size 121 2 v' n (verCells L) ∧ Below u.heap.size u w'))
    (HW : Hid (∀ u, Calls Try.prog 119 #[.agg #[.int .i64 cl, .int .i64 sq, .int .i64 kd, .int .i64 id, .int .i64 mt, .string dt]] u fun e w' => e = .returned (.bool true) ∧ Below u.heap.size u w'))
    (HA : Hid (∀ u, Below w.heap.size w u → Calls Try.prog 120 #[v, .agg #[.int .i64 cl, .int .i64 sq, .int .i64 kd, .int .i64 id, .int .i64 mt, .string dt], .int .i64 quota] u fun e w' => e = .returned (.int .i64 c) ∧ Below u.heap.size u w')) :
    Calls Try.prog 98 #[v, .agg #[.int .i64 cl, .int .i64 sq, .int .i64 kd, .int .i64 id, .int .i64 mt, .string dt], .int .i64 quota] w (Does L [] c n ⟨#[]⟩ w) := by
  have HN := Lib.hid hn
  have hvv := hv
  obtain ⟨av0, ac0, rfl⟩ := hvv
  clear hn hv
  go_enter Try.func98, Try.ntmps98
  go_wp2_with fail
  refine (HK.out _ (by go_grown)).mono ?_
  rintro e w1 ⟨v', rfl, O1, B1⟩
  have C1 : Hid (Below w.heap.size w w1) := (((Below.refl _ w).alloc (Nat.le_refl _) _).alloc (by simp) _).trans (B1.mono (by simp; omega))
  have R1 : Hid (RepAt w1 (w.heap.size + 1) 0 0 ⟨#[]⟩ (.slice none 0 0)) := RepAt.keep (RepAt.new1 w _ 0 0 ⟨#[]⟩ (.slice none 0 0)) B1 (by simp)
  have D1 : Hid (ReqB w1 w.heap.size cl sq kd id mt dt) := ((ReqB.fresh w cl sq kd id mt dt 34).keep ((Below.refl (w.heap.size + 1) _).alloc (by simp) _) (by omega)).keep B1 (by simp; omega)
  obtain ⟨a1, k1, rfl⟩ := own_shape O1
  have V1 : Hid (w1.ownsRow (w.heap.size + 2) 121 2 (.slice a1 n k1) n (verCells L)) := by simp only [World.size_alloc] at O1; exact O1
  have A1 : Hid (∀ a, a1 = some a → w.heap.size + 2 ≤ a.block) := fun a ha => by have := own_lo O1 a ha; simp at this; omega
  clear B1 O1
  obtain ⟨c0, c1, c2, c3, c4, c5⟩ := D1.out.cells
  go_wp2_with fail
  refine (HW.out _).mono ?_
  rintro e w2 ⟨rfl, B2⟩
  have C2 : Hid (Below w.heap.size w w2) := C1.out.trans (B2.mono C1.out.size)
  have R2 : Hid (RepAt w2 (w.heap.size + 1) 0 0 ⟨#[]⟩ (.slice none 0 0)) := R1.out.keep B2 R1.out.lt
  have D2 : Hid (ReqB w2 w.heap.size cl sq kd id mt dt) := D1.out.keep B2 D1.out.lt
  have V2 := Lib.hid (own_below V1.out B2)
  clear B2 R1 D1 V1 C1 c0 c1 c2 c3 c4 c5
  obtain ⟨c0, c1, c2, c3, c4, c5⟩ := D2.out.cells
  go_wp2_with fail
  refine (HA.out _ C2.out).mono ?_
  rintro e w3 ⟨rfl, B3⟩
  have C3 : Hid (Below w.heap.size w w3) := C2.out.trans (B3.mono C2.out.size)
  have R3 : Hid (RepAt w3 (w.heap.size + 1) 0 0 ⟨#[]⟩ (.slice none 0 0)) := R2.out.keep B3 R2.out.lt
  have D3 : Hid (ReqB w3 w.heap.size cl sq kd id mt dt) := D2.out.keep B3 D2.out.lt
  have V3 := Lib.hid (own_below V2.out B3)
  clear B3 R2 D2 V2 C2 c0 c1 c2 c3 c4 c5
  have HE := Lib.hid (rep_stored (c' := c) (n' := n) (d' := ⟨#[]⟩) R3.out (.slice none 0 0)).cells.1
  have HV := Lib.hid (vers_stored (R := w.heap.size + 1) (vers_own V3.out (Nat.le_refl _)) (fun a ha => by have := A1.out a ha; omega) c n ⟨#[]⟩ (.slice none 0 0))
  obtain ⟨⟨d0, d1, d2, d3⟩, ⟨z0, z1, z2, z3⟩⟩ := R3.out.cells
  have b1 : (c != 1) = true := bne_iff_ne.2 hc
  clear hc V3 D3
  go_wp2
  obtain ⟨e0, e1, e2, e3⟩ := HE.out
  unfold stored at e0 e1 e2 e3
  refine bodyPost_ret (v := .tuple #[.slice a1 n k1, .agg #[.int .i64 c, .int .i64 n, .string ⟨#[]⟩, .slice none 0 0]]) (by simp [results, Try.results98, go_sem, e0, e1, e2, e3]) rfl ⟨a1, k1, none, 0, by rw [HN.out]; rfl, ?_⟩
  rw [HN.out]
  exact ⟨HV.out, Ints.none _ _, stored_below C3.out (Nat.le_succ _) _ _ _ _⟩

set_option maxRecDepth 100000 in
set_option maxHeartbeats 1000000 in
theorem do_done (v : Value) (L : List VerV) (n : Nat) (cl sq kd id mt : Int) (dt : ByteArray) (quota : Int) (g : Bool) (d : ByteArray) (w : World) (hn : L.length = n) (hn6 : n ≤ 1000000)
    (hv : ∃ ao cap, v = .slice ao n cap)
    (HK : Hid (∀ u, Below w.heap.size w u → Calls Try.prog 118 #[v] u fun e w' => ∃ v', e = .returned v' ∧ w'.ownsRow u.heap.size 121 2 v' n (verCells L) ∧ Below u.heap.size u w'))
    (HW : Hid (∀ u, Calls Try.prog 119 #[.agg #[.int .i64 cl, .int .i64 sq, .int .i64 kd, .int .i64 id, .int .i64 mt, .string dt]] u fun e w' => e = .returned (.bool true) ∧ Below u.heap.size u w'))
    (HA : Hid (∀ u, Below w.heap.size w u → Calls Try.prog 120 #[v, .agg #[.int .i64 cl, .int .i64 sq, .int .i64 kd, .int .i64 id, .int .i64 mt, .string dt], .int .i64 quota] u fun e w' => e = .returned (.int .i64 1) ∧ Below u.heap.size u w'))
    (HM : Hid (∀ u, Calls Try.prog 121 #[.agg #[.int .i64 cl, .int .i64 sq, .int .i64 kd, .int .i64 id, .int .i64 mt, .string dt]] u fun e w' => e = .returned (.agg #[.bool g, .string d]) ∧ Below u.heap.size u w')) :
    Calls Try.prog 98 #[v, .agg #[.int .i64 cl, .int .i64 sq, .int .i64 kd, .int .i64 id, .int .i64 mt, .string dt], .int .i64 quota] w (Does (L ++ [⟨g, d⟩]) [] 1 (n + 1) ⟨#[]⟩ w) := by
  have HN := Lib.hid hn
  have hvv := hv
  obtain ⟨av0, ac0, rfl⟩ := hvv
  clear hn hv
  go_enter Try.func98, Try.ntmps98
  go_wp2_with fail
  refine (HK.out _ (by go_grown)).mono ?_
  rintro e w1 ⟨v', rfl, O1, B1⟩
  have C1 : Hid (Below w.heap.size w w1) := (((Below.refl _ w).alloc (Nat.le_refl _) _).alloc (by simp) _).trans (B1.mono (by simp; omega))
  have R1 : Hid (RepAt w1 (w.heap.size + 1) 0 0 ⟨#[]⟩ (.slice none 0 0)) := RepAt.keep (RepAt.new1 w _ 0 0 ⟨#[]⟩ (.slice none 0 0)) B1 (by simp)
  have D1 : Hid (ReqB w1 w.heap.size cl sq kd id mt dt) := ((ReqB.fresh w cl sq kd id mt dt 34).keep ((Below.refl (w.heap.size + 1) _).alloc (by simp) _) (by omega)).keep B1 (by simp; omega)
  obtain ⟨a1, k1, rfl⟩ := own_shape O1
  have V1 : Hid (w1.ownsRow (w.heap.size + 2) 121 2 (.slice a1 n k1) n (verCells L)) := by simp only [World.size_alloc] at O1; exact O1
  have A1 : Hid (∀ a, a1 = some a → w.heap.size + 2 ≤ a.block) := fun a ha => by have := own_lo O1 a ha; simp at this; omega
  clear B1 O1
  obtain ⟨c0, c1, c2, c3, c4, c5⟩ := D1.out.cells
  go_wp2_with fail
  refine (HW.out _).mono ?_
  rintro e w2 ⟨rfl, B2⟩
  have C2 : Hid (Below w.heap.size w w2) := C1.out.trans (B2.mono C1.out.size)
  have R2 : Hid (RepAt w2 (w.heap.size + 1) 0 0 ⟨#[]⟩ (.slice none 0 0)) := R1.out.keep B2 R1.out.lt
  have D2 : Hid (ReqB w2 w.heap.size cl sq kd id mt dt) := D1.out.keep B2 D1.out.lt
  have V2 := Lib.hid (own_below V1.out B2)
  clear B2 R1 D1 V1 C1 c0 c1 c2 c3 c4 c5
  obtain ⟨c0, c1, c2, c3, c4, c5⟩ := D2.out.cells
  go_wp2_with fail
  refine (HA.out _ C2.out).mono ?_
  rintro e w3 ⟨rfl, B3⟩
  have C3 : Hid (Below w.heap.size w w3) := C2.out.trans (B3.mono C2.out.size)
  have R3 : Hid (RepAt w3 (w.heap.size + 1) 0 0 ⟨#[]⟩ (.slice none 0 0)) := R2.out.keep B3 R2.out.lt
  have D3 : Hid (ReqB w3 w.heap.size cl sq kd id mt dt) := D2.out.keep B3 D2.out.lt
  have V3 := Lib.hid (own_below V2.out B3)
  clear B3 R2 D2 V2 C2 c0 c1 c2 c3 c4 c5
  obtain ⟨i0, hi, hz0, hz1, hz2⟩ := info_parts info_Version
  obtain ⟨c0, c1, c2, c3, c4, c5⟩ := D3.out.cells
  go_wp2_with fail
  refine (HM.out _).mono ?_
  rintro e w4 ⟨rfl, B4⟩
  have C4 : Hid (Below w.heap.size w w4) := C3.out.trans (B4.mono C3.out.size)
  have R4 : Hid (RepAt w4 (w.heap.size + 1) 0 0 ⟨#[]⟩ (.slice none 0 0)) := R3.out.keep B4 R3.out.lt
  have hlt := R4.out.lt
  have V4 : Hid ((w4.alloc (.cells #[.bool g, .string d] 121)).ownsRow (w.heap.size + 2) 121 2 (.slice a1 n k1) n (verCells L)) := (own_below V3.out B4).alloc _
  clear B4 R3 D3 V3 C3 c0 c1 c2 c3 c4 c5
  go_wp2_with (at_builtin; refine wpList_append_own_src rfl (.tmp 30) (.tmp 33) 112 112 rfl (w.heap.size + 2) 121 i0 (.agg #[.bool false, .string ⟨#[]⟩]) 2 24 Try.underlying112 hi hz0 hz1 hz2 rfl _ _ _ rfl V4.out _ 1 (verCells [⟨g, d⟩]) rfl (src_ver1 w4 g d) ?c3 ?c4 ?c5 ?_)
  case c3 => unfold maxLen; omega
  case c4 => omega
  case c5 => simp; omega
  intro v5 w5 O5 G5
  obtain ⟨a5, k5, rfl⟩ := own_shape O5
  rw [← verCells_append] at O5
  have B5 : Below (w.heap.size + 2) w4 w5 := ((Below.refl _ w4).alloc (by omega) _).grown G5 (by simp; omega) (fun k hk => (V4.out.lt k hk).1)
  have C5 : Hid (Below w.heap.size w w5) := C4.out.trans (B5.mono (by omega))
  have R5 : Hid (RepAt w5 (w.heap.size + 1) 0 0 ⟨#[]⟩ (.slice none 0 0)) := R4.out.keep B5 (by omega)
  have HE := Lib.hid (rep_stored (c' := 1) (n' := n + 1) (d' := ⟨#[]⟩) R5.out (.slice none 0 0)).cells.1
  have HV := Lib.hid (vers_stored (R := w.heap.size + 1) (vers_own O5 (Nat.le_refl _)) (fun a ha => by have := own_lo O5 a ha; omega) 1 (n + 1) ⟨#[]⟩ (.slice none 0 0))
  obtain ⟨⟨d0, d1, d2, d3⟩, ⟨z0, z1, z2, z3⟩⟩ := R5.out.cells
  clear B5 O5 G5 V4 hlt
  go_wp2
  obtain ⟨e0, e1, e2, e3⟩ := HE.out
  unfold stored at e0 e1 e2 e3
  refine bodyPost_ret (v := .tuple #[.slice a5 (n + 1) k5, .agg #[.int .i64 1, .int .i64 (n + 1), .string ⟨#[]⟩, .slice none 0 0]]) (by simp [results, Try.results98, go_sem, e0, e1, e2, e3]) rfl ⟨a5, k5, none, 0, by rw [List.length_append, HN.out]; rfl, ?_⟩
  rw [List.length_append, HN.out]
  exact ⟨HV.out, Ints.none _ _, stored_below C5.out (Nat.le_succ _) _ _ _ _⟩

/-- What the program's Do makes and tells. -/
theorem do_r (v : Value) (L L' : List VerV) (B : Nat) (cl sq kd id mt : Int) (dt : ByteArray) (quota c r : Int) (d : ByteArray) (l : List Int) (HL : Hid (doL L kd mt dt quota = L')) (HR : Hid (doR L kd mt quota = ⟨c, r, d, l⟩)) (w : World) (hV : Vers w B v L) (hB : B ≤ w.heap.size) (hl : L.length ≤ 1000000) :
    Calls Try.prog 98 #[v, .agg #[.int .i64 cl, .int .i64 sq, .int .i64 kd, .int .i64 id, .int .i64 mt, .string dt], .int .i64 quota] w (Does L' l c r d w) := by
  have h1 := HL.out
  have h2 := HR.out
  unfold doL at h1
  unfold doR at h2
  have HK : Hid (∀ u, Below w.heap.size w u → Calls Try.prog 118 #[v] u fun e w' => ∃ v', e = .returned v' ∧ w'.ownsRow u.heap.size 121 2 v' L.length (verCells L) ∧ Below u.heap.size u w') :=
    fun u hu => clonev_any v B L u (hV.keep (hu.mono hB)) (Nat.le_trans hB hu.size) hl
  by_cases hw : wrV kd = true
  · have HW : Hid (∀ u, Calls Try.prog 119 #[.agg #[.int .i64 cl, .int .i64 sq, .int .i64 kd, .int .i64 id, .int .i64 mt, .string dt]] u fun e w' => e = .returned (.bool true) ∧ Below u.heap.size u w') :=
      fun u => writesc_r cl sq kd id mt dt true (show _ = _ from hw.symm) u
    have HA : Hid (∀ u, Below w.heap.size w u → Calls Try.prog 120 #[v, .agg #[.int .i64 cl, .int .i64 sq, .int .i64 kd, .int .i64 id, .int .i64 mt, .string dt], .int .i64 quota] u fun e w' => e = .returned (.int .i64 (verdV L kd mt quota)) ∧ Below u.heap.size u w') :=
      fun u hu => verdict_r v L B cl sq kd id mt dt quota _ (show _ = _ from rfl) u (hV.keep (hu.mono hB)) (Nat.le_trans hB hu.size) hl
    rw [if_pos hw] at h2
    by_cases hv : verdV L kd mt quota = 1
    · rw [if_pos ⟨hw, hv⟩] at h1
      rw [if_pos hv] at h2
      obtain ⟨rfl, rfl, rfl, rfl⟩ : 1 = c ∧ (L.length : Int) + 1 = r ∧ (⟨#[]⟩ : ByteArray) = d ∧ [] = l := by simpa using h2
      subst h1
      rw [hv] at HA
      exact do_done v L L.length cl sq kd id mt dt quota (makeV kd dt).gone (makeV kd dt).data w rfl hl hV.shape HK HW HA (fun u => versionof_r cl sq kd id mt dt _ _ (show _ = _ from rfl) u)
    · rw [if_neg (fun h => hv h.2)] at h1
      rw [if_neg hv] at h2
      obtain ⟨rfl, rfl, rfl, rfl⟩ : verdV L kd mt quota = c ∧ (L.length : Int) = r ∧ (⟨#[]⟩ : ByteArray) = d ∧ [] = l := by simpa using h2
      subst h1
      exact do_not v L L.length cl sq kd id mt dt quota _ w rfl hl hV.shape hv HK HW HA
  · rw [if_neg (fun h => hw h.1)] at h1
    rw [if_neg hw] at h2
    subst h1
    have hf : wrV kd = false := by simpa using hw
    exact do_ask v L L.length cl sq kd id mt dt quota c r d l w rfl HK (fun u => writesc_r cl sq kd id mt dt false (show _ = _ from hf.symm) u)
      (fun u hu => ask_r v L B cl sq kd id mt dt c r d l (show _ = _ from h2) u (hV.keep (hu.mono hB)) (Nat.le_trans hB hu.size) hl)
end Go.Proofs.Ytenjjgghoacboaa
