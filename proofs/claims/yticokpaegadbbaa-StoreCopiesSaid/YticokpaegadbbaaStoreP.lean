/-
  THE PROGRAM's STORE: Put where the request may be and writes.
-/
import Derived.Test.YticokpaegadbbaaStoreQ
import Derived.Test.YticokpaegadbbaaChartT
import Derived.Deep.DeepCutAuto
import Derived.StillTailTactics
namespace Go.Proofs.Yticokpaegadbbaa
open Go.RowKit

theorem undrew {w w' : World} (h : Below w.drew.heap.size w.drew w') : Below w.heap.size w w' := ⟨h.os, h.tape, h.output, h.size, h.block⟩

set_option maxRecDepth 100000 in
set_option maxHeartbeats 2000000 in
theorem sput_old (b c : Nat) (s : StoV) (sq kd id mt : Int) (dt : ByteArray) (w : World) (hc : c < 4) (h : Sto layP w b s)
    (HM : Hid (∀ u, Calls Try.prog 29 #[.agg #[.int .i64 c, .int .i64 sq, .int .i64 kd, .int .i64 id, .int .i64 mt, .string dt]] u fun e w' => e = .returned (.bool true) ∧ Below u.heap.size u w'))
    (HW : Hid (∀ u, Calls Try.prog 30 #[.agg #[.int .i64 c, .int .i64 sq, .int .i64 kd, .int .i64 id, .int .i64 mt, .string dt]] u fun e w' => e = .returned (.bool true) ∧ Below u.heap.size u w'))
    (HN : Hid (∀ u, Calls Try.prog 31 #[.agg #[.int .i64 c, .int .i64 sq, .int .i64 kd, .int .i64 id, .int .i64 mt, .string dt], .int .i64 (s.cl c).seq] u fun e w' => e = .returned (.bool false) ∧ Below u.heap.size u w')) :
    Calls Try.prog 14 #[.pointer (some ⟨b, 0, none⟩), .agg #[.int .i64 c, .int .i64 sq, .int .i64 kd, .int .i64 id, .int .i64 mt, .string dt]] w (Refused 9 w) := by
  have i0 : (0 : Int) ≤ (c : Int) := by omega
  have i1 : (c : Int) < 4 := by omega
  obtain ⟨v, hv, c1, c2, c3, c4, c5, c6⟩ := sto_client h c hc
  have hbl := h.lt
  have HS := Lib.hid c1
  clear h hv c1 c2 c3 c4 c5 c6
  generalize (s.cl c).seq = ls at HN HS
  go_enter Try.func14, Try.ntmps14
  go_wp2_with fail
  refine (HM.out _).mono ?_
  rintro e w1 ⟨rfl, B1⟩
  have C1 : Hid (Below w.heap.size w w1) := (((Below.refl _ w).alloc (Nat.le_refl _) _).alloc (by simp) _).trans (B1.mono (by simp; omega))
  have R1 : Hid (RepAt w1 (w.heap.size + 1) 0 0 ⟨#[]⟩ (.slice none 0 0)) := RepAt.keep (RepAt.new1 w _ 0 0 ⟨#[]⟩ (.slice none 0 0)) B1 (by simp)
  have D1 : Hid (ReqB w1 w.heap.size c sq kd id mt dt) := ((ReqB.fresh w c sq kd id mt dt 40).keep ((Below.refl (w.heap.size + 1) _).alloc (by simp) _) (by omega)).keep B1 (by simp; omega)
  clear B1
  obtain ⟨c0, c1, c2, c3, c4, c5⟩ := D1.out.cells
  go_wp2_with fail
  refine (HW.out _).mono ?_
  rintro e w2 ⟨rfl, B2⟩
  have C2 : Hid (Below w.heap.size w w2) := C1.out.trans (B2.mono C1.out.size)
  have R2 := Lib.hid (R1.out.keep B2 R1.out.lt)
  have D2 := Lib.hid (D1.out.keep B2 D1.out.lt)
  have s2 : w2.cell? ⟨b, 2 + c * 6, none⟩ = some (.int .i64 ls) := (C2.out.cell (p := ⟨b, 2 + c * 6, none⟩) hbl).trans HS.out
  clear B2 R1 D1 C1 c0 c1 c2 c3 c4 c5
  obtain ⟨c0, c1, c2, c3, c4, c5⟩ := D2.out.cells
  have HK : Hid (∀ u, Below w2.heap.size w2 u → u.cell? ⟨b, 2 + c * 6, none⟩ = some (.int .i64 ls) ∧ Hid (Below w.heap.size w u) ∧ Hid (RepAt u (w.heap.size + 1) 0 0 ⟨#[]⟩ (.slice none 0 0)) ∧
      u.cell? ⟨w.heap.size, 0, none⟩ = some (.int .i64 c) ∧ u.cell? ⟨w.heap.size, 1, none⟩ = some (.int .i64 sq) ∧ u.cell? ⟨w.heap.size, 2, none⟩ = some (.int .i64 kd) ∧ u.cell? ⟨w.heap.size, 3, none⟩ = some (.int .i64 id) ∧ u.cell? ⟨w.heap.size, 4, none⟩ = some (.int .i64 mt) ∧ u.cell? ⟨w.heap.size, 5, none⟩ = some (.string dt)) :=
    fun u hu => ⟨(hu.cell (p := ⟨b, 2 + c * 6, none⟩) (Nat.lt_of_lt_of_le hbl C2.out.size)).trans s2, C2.out.trans (hu.mono C2.out.size), R2.out.keep hu R2.out.lt, (D2.out.keep hu D2.out.lt).cells⟩
  go_wp2
  go_region
  go_wp2
  go_region_held3 (fun u => u.cell? ⟨b, 2 + c * 6, none⟩ = some (.int .i64 ls) ∧ u.cell? ⟨w.heap.size, 0, none⟩ = some (.int .i64 c) ∧ u.cell? ⟨w.heap.size, 1, none⟩ = some (.int .i64 sq) ∧ u.cell? ⟨w.heap.size, 2, none⟩ = some (.int .i64 kd) ∧ u.cell? ⟨w.heap.size, 3, none⟩ = some (.int .i64 id) ∧ u.cell? ⟨w.heap.size, 4, none⟩ = some (.int .i64 mt) ∧ u.cell? ⟨w.heap.size, 5, none⟩ = some (.string dt)) (first | assumption | go_keep) (first | (go_at_call 31; refine (HN.out _).mono ?_; rintro e w3 ⟨rfl, B3⟩; obtain ⟨s3, C3, R3, d0, d1, d2, d3, d4, d5⟩ := HK.out _ (undrew (undrew B3))))
  rename_i hS
  clear hS
  have HE := Lib.hid (rep_stored (c' := 0) (n' := 0) (d' := ⟨#[]⟩) R3.out (.slice none 0 0)).cells.1
  have hlt := R3.out.lt
  obtain ⟨⟨x0, x1, x2, x3⟩, ⟨z0, z1, z2, z3⟩⟩ := R3.out.cells
  clear s3 d0 d1 d2 d3 d4 d5
  go_wp2
  obtain ⟨e0, e1, e2, e3⟩ := HE.out
  unfold stored at e0 e1 e2 e3
  refine bodyPost_ret (v := .tuple #[.agg #[.int .i64 0, .int .i64 0, .string ⟨#[]⟩, .slice none 0 0], .int .i64 9]) (by simp [results, Try.results14, go_sem, e0, e1, e2, e3]) rfl ⟨rfl, ?_⟩
  exact stored_below C3.out (Nat.le_succ _) _ _ _ _

/-- What is told of a request that is taken. -/
def PutTold (y : Lay) (b : Nat) (s' : StoV) (cd vr : Int) (d : ByteArray) (w : World) (e : Ending) (w' : World) : Prop :=
  ∃ ao cap, e = .returned (.tuple #[.agg #[.int .i64 cd, .int .i64 vr, .string d, .slice ao 0 cap], .int .i64 0]) ∧ Nil0 (.slice ao 0 cap) ∧ Besides b w w' ∧ Sto y w' b s'

/-- Behind the resource's own Do. -/
def CutP (w : World) (c sq kd i mt : Int) (dt : ByteArray) (L' : List VerV) (n' : Nat) (cd vr : Int) (d : ByteArray) (s8 s9 : Value) (wr : World) : Prop :=
  ∃ av ac ao cap R, s8 = .slice av n' ac ∧ s9 = .pointer (some ⟨R, 0, none⟩) ∧ w.heap.size + 2 ≤ R ∧ RepAt wr R cd vr d (.slice ao 0 cap) ∧ Nil0 (.slice ao 0 cap) ∧ Vers wr wr.heap.size (.slice av n' ac) L' ∧ RepAt wr (w.heap.size + 1) 0 0 ⟨#[]⟩ (.slice none 0 0) ∧
    ReqB wr w.heap.size c sq kd i mt dt ∧ Below w.heap.size w wr

theorem cutp_new {w w5 : World} {c sq kd i mt : Int} {dt : ByteArray} {L' : List VerV} {n' : Nat} {cd vr : Int} {d : ByteArray} {av ao : Option Addr} {ac cap : Nat} (C5 : Below w.heap.size w w5) (R5 : RepAt w5 (w.heap.size + 1) 0 0 ⟨#[]⟩ (.slice none 0 0)) (D5 : ReqB w5 w.heap.size c sq kd i mt dt)
    (V5 : Vers w5 w5.heap.size (.slice av n' ac) L') (I5 : Nil0 (.slice ao 0 cap)) (z5 : w.heap.size + 2 ≤ w5.heap.size) :
    CutP w c sq kd i mt dt L' n' cd vr d (.slice av n' ac) (.pointer (some ⟨w5.heap.size, 0, none⟩)) (w5.alloc (.cells #[.int .i64 cd, .int .i64 vr, .string d, .slice ao 0 cap] 34)) := by
  have hb : Below w5.heap.size w5 (w5.alloc (.cells #[.int .i64 cd, .int .i64 vr, .string d, .slice ao 0 cap] 34)) := (Below.refl _ _).alloc (Nat.le_refl _) _
  exact ⟨av, ac, ao, cap, w5.heap.size, rfl, rfl, z5, RepAt.new w5 cd vr d _, I5, V5.on hb, R5.keep hb R5.lt, D5.keep hb D5.lt, C5.trans (hb.mono C5.size)⟩
theorem cutp_old {w w5 : World} {R : Nat} {c sq kd i mt : Int} {dt : ByteArray} {L' : List VerV} {n' : Nat} {cd vr : Int} {d : ByteArray} {av ao : Option Addr} {ac cap : Nat} (X5 : RepAt w5 R 0 0 ⟨#[]⟩ (.slice none 0 0)) (C5 : Below w.heap.size w w5) (R5 : RepAt w5 (w.heap.size + 1) 0 0 ⟨#[]⟩ (.slice none 0 0)) (D5 : ReqB w5 w.heap.size c sq kd i mt dt)
    (V5 : Vers w5 w5.heap.size (.slice av n' ac) L') (I5 : Nil0 (.slice ao 0 cap)) (hR : w.heap.size + 2 ≤ R) :
    CutP w c sq kd i mt dt L' n' cd vr d (.slice av n' ac) (.pointer (some ⟨R, 0, none⟩)) (stored w5 R cd vr d (.slice ao 0 cap)) := by
  have hb := stored_besides w5 R cd vr d (.slice ao 0 cap)
  exact ⟨av, ac, ao, cap, R, rfl, rfl, hR, rep_stored X5 _, I5, (V5.besides (Nat.le_refl _) (X5.nobool (by intro x h; cases h)) hb).mono hb.size, R5.besides hb (by omega), D5.besides hb (by omega), stored_below C5 (by omega) _ _ _ _⟩

set_option maxRecDepth 100000 in
set_option maxHeartbeats 4000000 in
theorem sput_done (b c i : Nat) (s : StoV) (sq kd mt : Int) (dt : ByteArray) (L' : List VerV) (n' : Nat) (cd vr : Int) (d : ByteArray) (w : World) (hc : c < 4) (hi : i < 32) (h : Sto layP w b s)
    (hpl : 0 ≤ s.places) (hpl2 : s.places ≤ 1000000)
    (HM : Hid (∀ u, Calls Try.prog 29 #[.agg #[.int .i64 c, .int .i64 sq, .int .i64 kd, .int .i64 i, .int .i64 mt, .string dt]] u fun e w' => e = .returned (.bool true) ∧ Below u.heap.size u w'))
    (HW : Hid (∀ u, Calls Try.prog 30 #[.agg #[.int .i64 c, .int .i64 sq, .int .i64 kd, .int .i64 i, .int .i64 mt, .string dt]] u fun e w' => e = .returned (.bool true) ∧ Below u.heap.size u w'))
    (HN : Hid (∀ u, Calls Try.prog 31 #[.agg #[.int .i64 c, .int .i64 sq, .int .i64 kd, .int .i64 i, .int .i64 mt, .string dt], .int .i64 (s.cl c).seq] u fun e w' => e = .returned (.bool true) ∧ Below u.heap.size u w'))
    (HY : Hid (∀ u, Calls Try.prog 32 #[.agg #[.int .i64 c, .int .i64 sq, .int .i64 kd, .int .i64 i, .int .i64 mt, .string dt]] u fun e w' => e = .returned (.int .i64 i) ∧ Below u.heap.size u w'))
    (HD : Hid (∀ u v, Vers u u.heap.size v (s.res i) → Calls Try.prog 33 #[v, .agg #[.int .i64 c, .int .i64 sq, .int .i64 kd, .int .i64 i, .int .i64 mt, .string dt], .int .i64 s.quota] u (DoesN L' n' [] 0 cd vr d u))) :
    Calls Try.prog 14 #[.pointer (some ⟨b, 0, none⟩), .agg #[.int .i64 c, .int .i64 sq, .int .i64 kd, .int .i64 i, .int .i64 mt, .string dt]] w
      (PutTold layP b { s with places := s.places + 1, cl := updF s.cl c ⟨sq, cd, vr, d, s.places + 1⟩, res := updF s.res i L' } cd vr d w) := by
  have i0 : (0 : Int) ≤ (c : Int) := by omega
  have i1 : (c : Int) < 4 := by omega
  have j0 : (0 : Int) ≤ (i : Int) := by omega
  have j1 : (i : Int) < 32 := by omega
  have H := Lib.hid h
  have hbl := h.lt
  have HL : Hid (∀ u, Below w.heap.size w u → u.cell? ⟨b, 2 + c * 6, none⟩ = some (.int .i64 (s.cl c).seq)) := fun u hu => by
    obtain ⟨v, hv, c1, _⟩ := sto_client (h.on hu) c hc
    exact c1
  have HQ : Hid (∀ u, Below w.heap.size w u → u.cell? ⟨b, 0, none⟩ = some (.int .i64 s.quota)) := fun u hu => by
    obtain ⟨f, hk, ht⟩ := h.on hu
    exact ht.2.1 ▸ hk.cell 0 (by decide)
  obtain ⟨ar, cr, hcr, hvr⟩ := sto_res h i hi
  have HO : Hid (∀ u, Below w.heap.size w u → Calls Try.prog 34 #[.pointer (some ⟨b, 26, none⟩), .int .i64 i] u fun e w' => e = .returned (.slice ar (s.res i).length cr) ∧ u = w') :=
    fun u hu => of_r b i ar _ cr u hi ((hu.cell (p := ⟨b, 26 + i, none⟩) hbl).trans hcr)
  have HD2 : Hid (∀ u, Below w.heap.size w u → Calls Try.prog 33 #[.slice ar (s.res i).length cr, .agg #[.int .i64 c, .int .i64 sq, .int .i64 kd, .int .i64 i, .int .i64 mt, .string dt], .int .i64 s.quota] u (DoesN L' n' [] 0 cd vr d u)) :=
    fun u hu => HD.out u _ (hvr.on hu)
  clear h hcr hvr HD
  generalize (s.res i).length = nr at HO HD2
  generalize (s.cl c).seq = ls at HN HL
  go_enter Try.func14, Try.ntmps14
  go_wp2_with fail
  refine (HM.out _).mono ?_
  rintro e w1 ⟨rfl, B1⟩
  have C1 : Hid (Below w.heap.size w w1) := (((Below.refl _ w).alloc (Nat.le_refl _) _).alloc (by simp) _).trans (B1.mono (by simp; omega))
  have R1 : Hid (RepAt w1 (w.heap.size + 1) 0 0 ⟨#[]⟩ (.slice none 0 0)) := RepAt.keep (RepAt.new1 w _ 0 0 ⟨#[]⟩ (.slice none 0 0)) B1 (by simp)
  have D1 : Hid (ReqB w1 w.heap.size c sq kd i mt dt) := ((ReqB.fresh w c sq kd i mt dt 40).keep ((Below.refl (w.heap.size + 1) _).alloc (by simp) _) (by omega)).keep B1 (by simp; omega)
  clear B1
  obtain ⟨c0, c1, c2, c3, c4, c5⟩ := D1.out.cells
  go_wp2_with fail
  refine (HW.out _).mono ?_
  rintro e w2 ⟨rfl, B2⟩
  have C2 : Hid (Below w.heap.size w w2) := C1.out.trans (B2.mono C1.out.size)
  have R2 := Lib.hid (R1.out.keep B2 R1.out.lt)
  have D2 := Lib.hid (D1.out.keep B2 D1.out.lt)
  have s2 := HL.out w2 C2.out
  clear B2 R1 D1 C1 c0 c1 c2 c3 c4 c5
  obtain ⟨c0, c1, c2, c3, c4, c5⟩ := D2.out.cells
  have HK : Hid (∀ u, Below w2.heap.size w2 u → u.cell? ⟨b, 2 + c * 6, none⟩ = some (.int .i64 ls) ∧ Hid (Below w.heap.size w u) ∧ Hid (RepAt u (w.heap.size + 1) 0 0 ⟨#[]⟩ (.slice none 0 0)) ∧ Hid (ReqB u w.heap.size c sq kd i mt dt) ∧
      u.cell? ⟨w.heap.size, 0, none⟩ = some (.int .i64 c) ∧ u.cell? ⟨w.heap.size, 1, none⟩ = some (.int .i64 sq) ∧ u.cell? ⟨w.heap.size, 2, none⟩ = some (.int .i64 kd) ∧ u.cell? ⟨w.heap.size, 3, none⟩ = some (.int .i64 i) ∧ u.cell? ⟨w.heap.size, 4, none⟩ = some (.int .i64 mt) ∧ u.cell? ⟨w.heap.size, 5, none⟩ = some (.string dt)) :=
    fun u hu => ⟨HL.out u (C2.out.trans (hu.mono C2.out.size)), C2.out.trans (hu.mono C2.out.size), R2.out.keep hu R2.out.lt, D2.out.keep hu D2.out.lt, (D2.out.keep hu D2.out.lt).cells⟩
  go_wp2
  go_region
  go_wp2
  go_region_held3 (fun u => u.cell? ⟨b, 2 + c * 6, none⟩ = some (.int .i64 ls) ∧ u.cell? ⟨w.heap.size, 0, none⟩ = some (.int .i64 c) ∧ u.cell? ⟨w.heap.size, 1, none⟩ = some (.int .i64 sq) ∧ u.cell? ⟨w.heap.size, 2, none⟩ = some (.int .i64 kd) ∧ u.cell? ⟨w.heap.size, 3, none⟩ = some (.int .i64 i) ∧ u.cell? ⟨w.heap.size, 4, none⟩ = some (.int .i64 mt) ∧ u.cell? ⟨w.heap.size, 5, none⟩ = some (.string dt)) (first | assumption | go_keep) (first | (go_at_call 31; refine (HN.out _).mono ?_; rintro e w3 ⟨rfl, B3⟩; obtain ⟨s3, C3, R3, D3, d0, d1, d2, d3, d4, d5⟩ := HK.out _ (undrew (undrew B3))))
  rename_i hS
  clear hS s3 s2 HK R2 D2 C2 c0 c1 c2 c3 c4 c5
  go_wp2_with fail
  refine (HY.out _).mono ?_
  rintro e w4 ⟨rfl, B4⟩
  have C4 : Hid (Below w.heap.size w w4) := C3.out.trans (B4.mono C3.out.size)
  have R4 := Lib.hid (R3.out.keep B4 R3.out.lt)
  have D4 := Lib.hid (D3.out.keep B4 D3.out.lt)
  have q4 := HQ.out w4 C4.out
  clear B4 d0 d1 d2 d3 d4 d5 R3 D3 C3
  obtain ⟨c0, c1, c2, c3, c4, c5⟩ := D4.out.cells
  have HZ : Hid (∀ u, Below w4.heap.size w4 u → Below w.heap.size w u) := fun u hu => C4.out.trans (hu.mono C4.out.size)
  have HK4 : Hid (∀ u, Below w4.heap.size w4 u → u.cell? ⟨b, 0, none⟩ = some (.int .i64 s.quota) ∧ Hid (Below w.heap.size w u) ∧ Hid (RepAt u (w.heap.size + 1) 0 0 ⟨#[]⟩ (.slice none 0 0)) ∧ Hid (ReqB u w.heap.size c sq kd i mt dt) ∧ w.heap.size + 2 ≤ u.heap.size ∧
      u.cell? ⟨w.heap.size, 0, none⟩ = some (.int .i64 c) ∧ u.cell? ⟨w.heap.size, 1, none⟩ = some (.int .i64 sq) ∧ u.cell? ⟨w.heap.size, 2, none⟩ = some (.int .i64 kd) ∧ u.cell? ⟨w.heap.size, 3, none⟩ = some (.int .i64 i) ∧ u.cell? ⟨w.heap.size, 4, none⟩ = some (.int .i64 mt) ∧ u.cell? ⟨w.heap.size, 5, none⟩ = some (.string dt)) :=
    fun u hu => ⟨HQ.out u (C4.out.trans (hu.mono C4.out.size)), C4.out.trans (hu.mono C4.out.size), R4.out.keep hu R4.out.lt, D4.out.keep hu D4.out.lt, by have := hu.size; have := R4.out.lt; omega, (D4.out.keep hu D4.out.lt).cells⟩
  have HK5 : Hid (∀ u, Below (w4.alloc (.cells #[.int .i64 0, .int .i64 0, .string ⟨#[]⟩, .slice none 0 0] 34)).drew.heap.size (w4.alloc (.cells #[.int .i64 0, .int .i64 0, .string ⟨#[]⟩, .slice none 0 0] 34)).drew u → RepAt u w4.heap.size 0 0 ⟨#[]⟩ (.slice none 0 0) ∧ u.cell? ⟨b, 0, none⟩ = some (.int .i64 s.quota) ∧ Hid (Below w.heap.size w u) ∧ Hid (RepAt u (w.heap.size + 1) 0 0 ⟨#[]⟩ (.slice none 0 0)) ∧ Hid (ReqB u w.heap.size c sq kd i mt dt) ∧ w.heap.size + 2 ≤ u.heap.size ∧
      u.cell? ⟨w.heap.size, 0, none⟩ = some (.int .i64 c) ∧ u.cell? ⟨w.heap.size, 1, none⟩ = some (.int .i64 sq) ∧ u.cell? ⟨w.heap.size, 2, none⟩ = some (.int .i64 kd) ∧ u.cell? ⟨w.heap.size, 3, none⟩ = some (.int .i64 i) ∧ u.cell? ⟨w.heap.size, 4, none⟩ = some (.int .i64 mt) ∧ u.cell? ⟨w.heap.size, 5, none⟩ = some (.string dt)) :=
    fun u hu => ⟨RepAt.keep (RepAt.new w4 0 0 ⟨#[]⟩ (.slice none 0 0)) (undrew hu) (by simp), HK4.out u (((Below.refl _ w4).alloc (Nat.le_refl _) _).trans ((undrew hu).mono (by simp)))⟩
  have n0 := World.new_ne w4 _ c0
  have n1 := World.new_ne w4 _ c1
  have n2 := World.new_ne w4 _ c2
  have n3 := World.new_ne w4 _ c3
  have n4 := World.new_ne w4 _ c4
  have n5 := World.new_ne w4 _ c5
  have n6 := World.new_ne w4 _ q4
  go_upto_region 7 with fail
  go_cut [8, 9] (fun s8 s9 wr => CutP w c sq kd i mt dt L' n' cd vr d s8 s9 wr)
  case first =>
    go_region_held3 (fun u => u.cell? ⟨b, 0, none⟩ = some (.int .i64 s.quota) ∧ u.cell? ⟨w.heap.size, 0, none⟩ = some (.int .i64 c) ∧ u.cell? ⟨w.heap.size, 1, none⟩ = some (.int .i64 sq) ∧ u.cell? ⟨w.heap.size, 2, none⟩ = some (.int .i64 kd) ∧ u.cell? ⟨w.heap.size, 3, none⟩ = some (.int .i64 i) ∧ u.cell? ⟨w.heap.size, 4, none⟩ = some (.int .i64 mt) ∧ u.cell? ⟨w.heap.size, 5, none⟩ = some (.string dt)) (first | assumption | go_keep)
      (first
        | (go_at_call 34; refine (HO.out _ (HZ.out _ (by go_grown))).mono ?_; rintro e w5 ⟨rfl, rfl⟩)
        | (go_at_call 33; (with_reducible refine (HD2.out w4.drew (HZ.out _ (by go_grown))).mono ?_); rintro e w5 ⟨av, ac, ao, cap, rfl, V5, I5, B5⟩; obtain ⟨q5, C5, R5, D5, z5, d0, d1, d2, d3, d4, d5⟩ := HK4.out _ (undrew B5); have HV := Lib.hid V5; have HI := Lib.hid (Nil0.of I5); have m0 := World.new_ne w5 _ d0; have m1 := World.new_ne w5 _ d1; have m2 := World.new_ne w5 _ d2; have m3 := World.new_ne w5 _ d3; have m4 := World.new_ne w5 _ d4; have m5 := World.new_ne w5 _ d5; have m6 := World.new_ne w5 _ q5; clear B5 V5 I5)
        | (go_at_call 33; (with_reducible refine (HD2.out (w4.alloc (.cells #[.int .i64 0, .int .i64 0, .string ⟨#[]⟩, .slice none 0 0] 34)).drew (HZ.out _ (by go_grown))).mono ?_); rintro e w5 ⟨av, ac, ao, cap, rfl, V5, I5, B5⟩; obtain ⟨x5, q5, C5, R5, D5, z5, d0, d1, d2, d3, d4, d5⟩ := HK5.out _ B5; have X5 := Lib.hid x5; have hlt5 := x5.lt; obtain ⟨⟨x0, x1, x2, x3⟩, ⟨y0, y1, y2, y3⟩⟩ := x5.cells; have HV := Lib.hid V5; have HI := Lib.hid (Nil0.of I5); clear B5 V5 I5 x5))
    all_goals
      rename_i hS
      clear hS
      go_wp2
      go_meet
    case rel => exact cutp_new C5.out R5.out D5.out HV.out HI.out z5
    case rel => exact cutp_old X5.out C5.out R5.out D5.out HV.out HI.out (by have := C4.out.size; have := R4.out.lt; omega)
    case rel => exact cutp_old X5.out C5.out R5.out D5.out HV.out HI.out (by have := C4.out.size; have := R4.out.lt; omega)
  case rest =>
    obtain ⟨av, ac, ao, cap, R, rfl, rfl, hR, x5, nil5, v5, r5, d5, b5⟩ := hcut
    obtain ⟨f, hk, ht⟩ := H.out.on b5
    have HN5 := Lib.hid nil5
    have HB5 := Lib.hid b5
    have HT := Lib.hid ht
    have HF := Lib.hid hk
    have HNB := Lib.hid (hk.nobool ht.1)
    have HV5 := Lib.hid v5
    have X5 := Lib.hid x5
    have D5 := Lib.hid d5
    have R5 := Lib.hid r5
    have bR : b ≠ R := by omega
    have Rb : R ≠ b := by omega
    have bQ : b ≠ w.heap.size := by omega
    have Qb : w.heap.size ≠ b := by omega
    have bT : b ≠ w.heap.size + 1 := by omega
    have Tb : w.heap.size + 1 ≠ b := by omega
    have k1 := hk.cell (26 + i) (by omega)
    have k2 := hk.free (26 + i)
    clear v5 x5 d5 r5 nil5 ht hk H n0 n1 n2 n3 n4 n5 n6 HZ HK4 HK5 HO HD2 HM HW HN HY HQ HL c0 c1 c2 c3 c4 c5 R4 D4 C4 q4 b5
    go_upto_region 9 with fail
    obtain ⟨w6, hw6⟩ : ∃ x, x = wc.setCell ⟨b, 26 + i, none⟩ (.slice av n' ac) := ⟨_, rfl⟩
    rw [← hw6]
    have F6 : Blk w6 b 67 58 (updF f (26 + i) (.slice av n' ac)) := hw6 ▸ HF.out.set (26 + i) _
    have B6 : Besides b wc w6 := hw6 ▸ Besides.setCell _ _ _ _
    have p6 := F6.cell 1 (by decide)
    rw [updF_other _ _ _ _ (by omega), HT.out.2.2.1] at p6
    have p6' := F6.free 1
    have HF6 := Lib.hid F6
    have HB6 := Lib.hid B6
    clear hw6 F6 B6 k1 k2 HF
    go_upto_region 10 with fail
    obtain ⟨w7, hw7⟩ : ∃ x, x = w6.setCell ⟨b, 1, none⟩ (.int .i64 (s.places + 1)) := ⟨_, rfl⟩
    rw [← hw7]
    have F7 : Blk w7 b 67 58 (updF (updF f (26 + i) (.slice av n' ac)) 1 (.int .i64 (s.places + 1))) := hw7 ▸ HF6.out.set 1 _
    have B7 : Besides b wc w7 := HB6.out.trans (hw7 ▸ Besides.setCell _ _ _ _)
    have p7 := F7.cell 1 (by decide)
    rw [updF_same] at p7
    have q0 := F7.cell (2 + c * 6) (by omega)
    have q1 := F7.cell (2 + c * 6 + 1) (by omega)
    have q2 := F7.cell (2 + c * 6 + 2) (by omega)
    have q3 := F7.cell (2 + c * 6 + 3) (by omega)
    have q4 := F7.cell (2 + c * 6 + 4) (by omega)
    have q5 := F7.cell (2 + c * 6 + 5) (by omega)
    have r0 := F7.free (2 + c * 6)
    have r1 := F7.free (2 + c * 6 + 1)
    have r2 := F7.free (2 + c * 6 + 2)
    have r3 := F7.free (2 + c * 6 + 3)
    have r4 := F7.free (2 + c * 6 + 4)
    have r5 := F7.free (2 + c * 6 + 5)
    have D7 := (D5.out.besides B7 Qb).cells
    obtain ⟨d0, d1, d2, d3, d4, d5⟩ := D7
    obtain ⟨⟨x0, x1, x2, x3⟩, _⟩ := (X5.out.besides B7 Rb).cells
    have HF7 := Lib.hid F7
    have HB7 := Lib.hid B7
    have h1o : 1 < 2 + c * 6 := by omega
    clear hw7 F7 B7 p6 p6' HF6 HB6 d0 d2 d3 d4 d5
    go_still_tail 10, (by kernel_rfl)
    go_upto_region 11 with fail
    obtain ⟨w9, hw9⟩ : ∃ x, x = ((((((w7.setCell ⟨b, 2 + c * 6, none⟩ (.int .i64 sq)).setCell ⟨b, 2 + c * 6 + 1, none⟩ (.int .i64 cd)).setCell ⟨b, 2 + c * 6 + 2, none⟩ (.int .i64 vr)).setCell ⟨b, 2 + c * 6 + 3, none⟩ (.string d)).setCell ⟨b, 2 + c * 6 + 4, none⟩ (.slice ao 0 cap)).setCell ⟨b, 2 + c * 6 + 5, none⟩ (.int .i64 (s.places + 1))).drew := ⟨_, rfl⟩
    rw [← hw9]
    have F9 : Blk w9 b 67 58 (putF f i (2 + c * 6) (.slice av n' ac) (s.places + 1) sq cd vr d (.slice ao 0 cap)) := by
      rw [hw9]
      exact Blk.drew ((((((HF7.out.set _ _).set _ _).set _ _).set _ _).set _ _).set _ _)
    have B9 : Besides b wc w9 := by
      refine HB7.out.trans ?_
      rw [hw9]
      exact Besides.drew ((((((Besides.setCell b (2 + c * 6) w7 (.int .i64 sq)).trans (Besides.setCell b (2 + c * 6 + 1) _ (.int .i64 cd))).trans (Besides.setCell b (2 + c * 6 + 2) _ (.int .i64 vr))).trans (Besides.setCell b (2 + c * 6 + 3) _ (.string d))).trans (Besides.setCell b (2 + c * 6 + 4) _ (.slice ao 0 cap))).trans (Besides.setCell b (2 + c * 6 + 5) _ (.int .i64 (s.places + 1))))
    have X9 := X5.out.besides B9 Rb
    have T9 := R5.out.besides B9 Tb
    have hvv : ∀ v L, Vers wc wc.heap.size v L → Vers w9 w9.heap.size v L := fun v L h => (h.besides (Nat.le_refl _) HNB.out B9).mono B9.size
    have S9 : Sto layP w9 b { s with places := s.places + 1, cl := updF s.cl c ⟨sq, cd, vr, d, s.places + 1⟩, res := updF s.res i L' } := ⟨_, F9, tell_put (HT.out.vers hvv) hc hi (hvv _ _ HV5.out) sq cd vr d HN5.out⟩
    have TB : NoBool w9 (w.heap.size + 1) := T9.nobool (by intro x h; cases h)
    have BB : Besides b w w9 := (Besides.of HB5.out).trans B9
    have HS9 := Lib.hid (S9.besides TB (stored_besides w9 (w.heap.size + 1) cd vr d (.slice ao 0 cap)) bT)
    have HBB := Lib.hid (BB.stored (Nat.le_succ _) cd vr d (.slice ao 0 cap))
    have HE := Lib.hid (rep_stored (c' := cd) (n' := vr) (d' := d) T9 (.slice ao 0 cap)).cells.1
    obtain ⟨⟨x0, x1, x2, x3⟩, _⟩ := X9.cells
    obtain ⟨⟨y0, y1, y2, y3⟩, ⟨z0, z1, z2, z3⟩⟩ := T9.cells
    have TR : w.heap.size + 1 ≠ R := by omega
    have RT : R ≠ w.heap.size + 1 := by omega
    clear hw9 F9 B9 X9 T9 hvv S9 TB BB q0 q1 q2 q3 q4 q5 r0 r1 r2 r3 r4 r5 HF7 HB7 p7 d1
    go_wp2

    obtain ⟨e0, e1, e2, e3⟩ := HE.out
    unfold stored at e0 e1 e2 e3
    refine bodyPost_ret (v := .tuple #[.agg #[.int .i64 cd, .int .i64 vr, .string d, .slice ao 0 cap], .int .i64 0]) (by simp [results, Try.results14, go_sem, e0, e1, e2, e3]) rfl ⟨ao, cap, rfl, HN5.out, HBB.out, HS9.out⟩
end Go.Proofs.Yticokpaegadbbaa
