/-
  THE PROGRAM's STORE: Ask.
-/
import Derived.Test.YticokpaegadbbaaStoreQ
import Derived.Test.YticokpaegadbbaaChartT
namespace Go.Proofs.Yticokpaegadbbaa
open Go.RowKit

theorem undrewK {w w' : World} (h : Below w.drew.heap.size w.drew w') : Below w.heap.size w w' := ⟨h.os, h.tape, h.output, h.size, h.block⟩

/-- What is told of a question. -/
def AskTold (l : List Int) (m : Nat) (c r : Int) (d : ByteArray) (w : World) (e : Ending) (w' : World) : Prop :=
  ∃ ao cap, e = .returned (.tuple #[.agg #[.int .i64 c, .int .i64 r, .string d, .slice ao m cap], .int .i64 0]) ∧ Ints w' w'.heap.size (.slice ao m cap) l ∧ Below w.heap.size w w'

def TellsM (l : List Int) (m : Nat) (c r : Int) (d : ByteArray) (w : World) (e : Ending) (w' : World) : Prop :=
  ∃ ao cap, e = .returned (.agg #[.int .i64 c, .int .i64 r, .string d, .slice ao m cap]) ∧ Ints w' w'.heap.size (.slice ao m cap) l ∧ (∀ a, ao = some a → w.heap.size ≤ a.block) ∧ Below w.heap.size w w'
theorem Tells.m {l : List Int} {m : Nat} {c r : Int} {d : ByteArray} {w : World} {e : Ending} {w' : World} (h : Tells l c r d w e w') (hm : l.length = m) : TellsM l m c r d w e w' := by
  subst hm
  exact h

theorem Ints.besides {w w' : World} {R B : Nat} {v : Value} {l : List Int} (h : Ints w B v l) (hB : B ≤ w.heap.size) (hb : Besides R w w') (hne : ∀ ao n cap, v = .slice ao n cap → ∀ a, ao = some a → a.block ≠ R) : Ints w' B v l := by
  obtain ⟨ao, cap, rfl, h1, h2, h3, h4⟩ := h
  refine ⟨ao, cap, rfl, h1, h2, h3, fun hl => ?_⟩
  obtain ⟨c, off, rfl, hcB, hc⟩ := h4 hl
  exact ⟨c, off, rfl, hcB, fun j hj => (hb.cell (p := ⟨c, off + j, Option.none⟩) (show c < _ by omega) (show c ≠ R from hne _ _ _ rfl _ rfl)).trans (hc j hj)⟩

set_option maxRecDepth 100000 in
set_option maxHeartbeats 2000000 in
theorem sask_done (b i : Nat) (L : List VerV) (cl sq kd mt : Int) (dt : ByteArray) (l : List Int) (m : Nat) (cd vr : Int) (d : ByteArray) (w : World) (hi : i < 32) (hbl : b < w.heap.size) (hm : l.length = m)
    (ar : Option Addr) (nr cr : Nat) (hcr : w.cell? ⟨b, 26 + i, none⟩ = some (.slice ar nr cr)) (hvr : Vers w w.heap.size (.slice ar nr cr) L)
    (HM : Hid (∀ u, Calls Try.prog 29 #[.agg #[.int .i64 cl, .int .i64 sq, .int .i64 kd, .int .i64 i, .int .i64 mt, .string dt]] u fun e w' => e = .returned (.bool true) ∧ Below u.heap.size u w'))
    (HW : Hid (∀ u, Calls Try.prog 30 #[.agg #[.int .i64 cl, .int .i64 sq, .int .i64 kd, .int .i64 i, .int .i64 mt, .string dt]] u fun e w' => e = .returned (.bool false) ∧ Below u.heap.size u w'))
    (HY : Hid (∀ u, Calls Try.prog 32 #[.agg #[.int .i64 cl, .int .i64 sq, .int .i64 kd, .int .i64 i, .int .i64 mt, .string dt]] u fun e w' => e = .returned (.int .i64 i) ∧ Below u.heap.size u w'))
    (HD : Hid (∀ u v, Vers u u.heap.size v L → Calls Try.prog 37 #[v, .agg #[.int .i64 cl, .int .i64 sq, .int .i64 kd, .int .i64 i, .int .i64 mt, .string dt]] u (Tells l cd vr d u))) :
    Calls Try.prog 17 #[.pointer (some ⟨b, 0, none⟩), .agg #[.int .i64 cl, .int .i64 sq, .int .i64 kd, .int .i64 i, .int .i64 mt, .string dt]] w (AskTold l m cd vr d w) := by
  have j0 : (0 : Int) ≤ (i : Int) := by omega
  have j1 : (i : Int) < 32 := by omega
  have HO : Hid (∀ u, Below w.heap.size w u → Calls Try.prog 34 #[.pointer (some ⟨b, 26, none⟩), .int .i64 i] u fun e w' => e = .returned (.slice ar nr cr) ∧ u = w') :=
    fun u hu => of_r b i ar _ cr u hi ((hu.cell (p := ⟨b, 26 + i, none⟩) hbl).trans hcr)
  have HD2 : Hid (∀ u, Below w.heap.size w u → Calls Try.prog 37 #[.slice ar nr cr, .agg #[.int .i64 cl, .int .i64 sq, .int .i64 kd, .int .i64 i, .int .i64 mt, .string dt]] u (TellsM l m cd vr d u)) :=
    fun u hu => (HD.out u _ (hvr.on hu)).mono fun _ _ h => h.m hm
  clear hcr hvr HD hm
  go_enter Try.func17, Try.ntmps17
  go_wp2_with fail
  refine (HM.out _).mono ?_
  rintro e w1 ⟨rfl, B1⟩
  have C1 : Hid (Below w.heap.size w w1) := (((Below.refl _ w).alloc (Nat.le_refl _) _).alloc (by simp) _).trans (B1.mono (by simp; omega))
  have R1 : Hid (RepAt w1 (w.heap.size + 1) 0 0 ⟨#[]⟩ (.slice none 0 0)) := RepAt.keep (RepAt.new1 w _ 0 0 ⟨#[]⟩ (.slice none 0 0)) B1 (by simp)
  have D1 : Hid (ReqB w1 w.heap.size cl sq kd i mt dt) := ((ReqB.fresh w cl sq kd i mt dt 40).keep ((Below.refl (w.heap.size + 1) _).alloc (by simp) _) (by omega)).keep B1 (by simp; omega)
  clear B1
  obtain ⟨c0, c1, c2, c3, c4, c5⟩ := D1.out.cells
  go_wp2_with fail
  refine (HW.out _).mono ?_
  rintro e w2 ⟨rfl, B2⟩
  have C2 : Hid (Below w.heap.size w w2) := C1.out.trans (B2.mono C1.out.size)
  have R2 := Lib.hid (R1.out.keep B2 R1.out.lt)
  have D2 := Lib.hid (D1.out.keep B2 D1.out.lt)
  clear B2 R1 D1 C1 c0 c1 c2 c3 c4 c5
  obtain ⟨c0, c1, c2, c3, c4, c5⟩ := D2.out.cells
  have HK : Hid (∀ u, Below w2.heap.size w2 u → Hid (Below w.heap.size w u) ∧ Hid (RepAt u (w.heap.size + 1) 0 0 ⟨#[]⟩ (.slice none 0 0)) ∧ Hid (ReqB u w.heap.size cl sq kd i mt dt) ∧
      u.cell? ⟨w.heap.size, 0, none⟩ = some (.int .i64 cl) ∧ u.cell? ⟨w.heap.size, 1, none⟩ = some (.int .i64 sq) ∧ u.cell? ⟨w.heap.size, 2, none⟩ = some (.int .i64 kd) ∧ u.cell? ⟨w.heap.size, 3, none⟩ = some (.int .i64 i) ∧ u.cell? ⟨w.heap.size, 4, none⟩ = some (.int .i64 mt) ∧ u.cell? ⟨w.heap.size, 5, none⟩ = some (.string dt)) :=
    fun u hu => ⟨C2.out.trans (hu.mono C2.out.size), R2.out.keep hu R2.out.lt, D2.out.keep hu D2.out.lt, (D2.out.keep hu D2.out.lt).cells⟩
  go_wp2
  go_region_held3 (fun u => u.cell? ⟨w.heap.size, 0, none⟩ = some (.int .i64 cl) ∧ u.cell? ⟨w.heap.size, 1, none⟩ = some (.int .i64 sq) ∧ u.cell? ⟨w.heap.size, 2, none⟩ = some (.int .i64 kd) ∧ u.cell? ⟨w.heap.size, 3, none⟩ = some (.int .i64 i) ∧ u.cell? ⟨w.heap.size, 4, none⟩ = some (.int .i64 mt) ∧ u.cell? ⟨w.heap.size, 5, none⟩ = some (.string dt)) (first | assumption | go_keep)
    (first
      | (go_at_call 32; refine (HY.out _).mono ?_; rintro e w3 ⟨rfl, B3⟩; obtain ⟨C3, R3, D3, d0, d1, d2, d3, d4, d5⟩ := HK.out _ (undrewK B3))
      | (go_at_call 34; refine (HO.out _ C3.out).mono ?_; rintro e w4 ⟨rfl, rfl⟩)
      | (go_at_call 37; refine (HD2.out _ C3.out).mono ?_; rintro e w5 ⟨ao, cap, rfl, I5, L5, B5⟩; obtain ⟨d0, d1, d2, d3, d4, d5⟩ := (D3.out.keep B5 D3.out.lt).cells; have HB5 := Lib.hid B5; have HI5 := Lib.hid I5; have HL5 : Hid (∀ a, ao = some a → a.block ≠ w.heap.size + 1) := fun a ha => by { have h1 := L5 a ha; have h2 := R3.out.lt; omega }; have HC5 := Lib.hid (C3.out.trans (B5.mono C3.out.size)); have R5 := R3.out.keep B5 R3.out.lt; have HR5 := Lib.hid R5; have lt5 := R5.lt; obtain ⟨⟨x0, x1, x2, x3⟩, ⟨z0, z1, z2, z3⟩⟩ := R5.cells; clear R5 B5 I5 L5))
  rename_i hS
  clear hS d0 d1 d2 d3 d4 d5 c0 c1 c2 c3 c4 c5
  have HE := Lib.hid (rep_stored (c' := cd) (n' := vr) (d' := d) HR5.out (.slice ao m cap)).cells.1
  have HB := stored_besides w5 (w.heap.size + 1) cd vr d (.slice ao m cap)
  have HF := Lib.hid ((HI5.out.besides (Nat.le_refl _) HB (fun ao' n' cap' h a ha => by cases h; exact HL5.out a ha)).mono HB.size)
  have HG := Lib.hid (stored_below HC5.out (Nat.le_succ _) cd vr d (.slice ao m cap))
  clear HB
  go_wp2
  obtain ⟨e0, e1, e2, e3⟩ := HE.out
  unfold stored at e0 e1 e2 e3
  refine bodyPost_ret (v := .tuple #[.agg #[.int .i64 cd, .int .i64 vr, .string d, .slice ao m cap], .int .i64 0]) (by simp [results, Try.results17, go_sem, e0, e1, e2, e3]) rfl ⟨ao, cap, rfl, HF.out, HG.out⟩
end Go.Proofs.Yticokpaegadbbaa
