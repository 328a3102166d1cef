/-
  DIRTY'S Read, by contract: of a question that may be. No condition but that a log has at most a hundred thousand requests.
-/
import Derived.Test.YtenjjgghoacboaaDtC
import Derived.Deep.DeepCutAuto
namespace Go.Proofs.Ytenjjgghoacboaa
open Go.RowKit

/-- What is told of a question, and where it lies. -/
def AskLo (l : List Int) (m : Nat) (c r : Int) (d : ByteArray) (w : World) (e : Ending) (w' : World) : Prop :=
  ∃ ao cap, e = .returned (.tuple #[.agg #[.int .i64 c, .int .i64 r, .string d, .slice ao m cap], .int .i64 0]) ∧ Ints w' w'.heap.size (.slice ao m cap) l ∧ (∀ a, ao = some a → w.heap.size ≤ a.block) ∧ Below w.heap.size w w'
set_option maxRecDepth 100000 in
set_option maxHeartbeats 2000000 in
theorem sask_lo (b i : Nat) (L : List VerV) (cl sq kd mt : Int) (dt : ByteArray) (l : List Int) (m : Nat) (cd vr : Int) (d : ByteArray) (w : World) (hi : i < 32) (hbl : b < w.heap.size) (hm : l.length = m)
    (ar : Option Addr) (nr cr : Nat) (hcr : w.cell? ⟨b, 26 + i, none⟩ = some (.slice ar nr cr)) (hvr : Vers w w.heap.size (.slice ar nr cr) L)
    (HM : Hid (∀ u, Calls Try.prog 59 #[.agg #[.int .i64 cl, .int .i64 sq, .int .i64 kd, .int .i64 i, .int .i64 mt, .string dt]] u fun e w' => e = .returned (.bool true) ∧ Below u.heap.size u w'))
    (HW : Hid (∀ u, Calls Try.prog 60 #[.agg #[.int .i64 cl, .int .i64 sq, .int .i64 kd, .int .i64 i, .int .i64 mt, .string dt]] u fun e w' => e = .returned (.bool false) ∧ Below u.heap.size u w'))
    (HY : Hid (∀ u, Calls Try.prog 62 #[.agg #[.int .i64 cl, .int .i64 sq, .int .i64 kd, .int .i64 i, .int .i64 mt, .string dt]] u fun e w' => e = .returned (.int .i64 i) ∧ Below u.heap.size u w'))
    (HD : Hid (∀ u v, Vers u u.heap.size v L → Calls Try.prog 105 #[v, .agg #[.int .i64 cl, .int .i64 sq, .int .i64 kd, .int .i64 i, .int .i64 mt, .string dt]] u (Tells l cd vr d u))) :
    Calls Try.prog 69 #[.pointer (some ⟨b, 0, none⟩), .agg #[.int .i64 cl, .int .i64 sq, .int .i64 kd, .int .i64 i, .int .i64 mt, .string dt]] w (AskLo l m cd vr d w) := by
  have j0 : (0 : Int) ≤ (i : Int) := by omega
  have j1 : (i : Int) < 32 := by omega
  have HO : Hid (∀ u, Below w.heap.size w u → Calls Try.prog 99 #[.pointer (some ⟨b, 26, none⟩), .int .i64 i] u fun e w' => e = .returned (.slice ar nr cr) ∧ u = w') :=
    fun u hu => of_r b i ar _ cr u hi ((hu.cell (p := ⟨b, 26 + i, none⟩) hbl).trans hcr)
  have HD2 : Hid (∀ u, Below w.heap.size w u → Calls Try.prog 105 #[.slice ar nr cr, .agg #[.int .i64 cl, .int .i64 sq, .int .i64 kd, .int .i64 i, .int .i64 mt, .string dt]] u (TellsM l m cd vr d u)) :=
    fun u hu => (HD.out u _ (hvr.on hu)).mono fun _ _ h => h.m hm
  clear hcr hvr HD hm
  go_enter Try.func69, Try.ntmps69
  go_wp2_with fail
  refine (HM.out _).mono ?_
  rintro e w1 ⟨rfl, B1⟩
  have C1 : Hid (Below w.heap.size w w1) := (((Below.refl _ w).alloc (Nat.le_refl _) _).alloc (by simp) _).trans (B1.mono (by simp; omega))
  have R1 : Hid (RepAt w1 (w.heap.size + 1) 0 0 ⟨#[]⟩ (.slice none 0 0)) := RepAt.keep (RepAt.new1 w _ 0 0 ⟨#[]⟩ (.slice none 0 0)) B1 (by simp)
  have D1 : Hid (ReqB w1 w.heap.size cl sq kd i mt dt) := ((ReqB.fresh w cl sq kd i mt dt 34).keep ((Below.refl (w.heap.size + 1) _).alloc (by simp) _) (by omega)).keep B1 (by simp; omega)
  clear B1
  obtain ⟨c0, c1, c2, c3, c4, c5⟩ := D1.out.cells
  go_wp2_with fail
  refine (HW.out _).mono ?_
  rintro e w2 ⟨rfl, B2⟩
  have C2 : Hid (Below w.heap.size w w2) := C1.out.trans (B2.mono C1.out.size)
  have R2 := Lib.hid (R1.out.keep B2 R1.out.lt)
  have D2 := Lib.hid (D1.out.keep B2 D1.out.lt)
  clear B2 R1 D1 C1 c0 c1 c2 c3 c4 c5
  obtain ⟨c0, c1, c2, c3, c4, c5⟩ := D2.out.cells
  have HK : Hid (∀ u, Below w2.heap.size w2 u → Hid (Below w.heap.size w u) ∧ Hid (RepAt u (w.heap.size + 1) 0 0 ⟨#[]⟩ (.slice none 0 0)) ∧ Hid (ReqB u w.heap.size cl sq kd i mt dt) ∧
      u.cell? ⟨w.heap.size, 0, none⟩ = some (.int .i64 cl) ∧ u.cell? ⟨w.heap.size, 1, none⟩ = some (.int .i64 sq) ∧ u.cell? ⟨w.heap.size, 2, none⟩ = some (.int .i64 kd) ∧ u.cell? ⟨w.heap.size, 3, none⟩ = some (.int .i64 i) ∧ u.cell? ⟨w.heap.size, 4, none⟩ = some (.int .i64 mt) ∧ u.cell? ⟨w.heap.size, 5, none⟩ = some (.string dt)) :=
    fun u hu => ⟨C2.out.trans (hu.mono C2.out.size), R2.out.keep hu R2.out.lt, D2.out.keep hu D2.out.lt, (D2.out.keep hu D2.out.lt).cells⟩
  go_wp2
  go_region_held3 (fun u => u.cell? ⟨w.heap.size, 0, none⟩ = some (.int .i64 cl) ∧ u.cell? ⟨w.heap.size, 1, none⟩ = some (.int .i64 sq) ∧ u.cell? ⟨w.heap.size, 2, none⟩ = some (.int .i64 kd) ∧ u.cell? ⟨w.heap.size, 3, none⟩ = some (.int .i64 i) ∧ u.cell? ⟨w.heap.size, 4, none⟩ = some (.int .i64 mt) ∧ u.cell? ⟨w.heap.size, 5, none⟩ = some (.string dt)) (first | assumption | go_keep)
    (first
      | (go_at_call 62; refine (HY.out _).mono ?_; rintro e w3 ⟨rfl, B3⟩; obtain ⟨C3, R3, D3, d0, d1, d2, d3, d4, d5⟩ := HK.out _ (undrewK B3))
      | (go_at_call 99; refine (HO.out _ C3.out).mono ?_; rintro e w4 ⟨rfl, rfl⟩)
      | (go_at_call 105; refine (HD2.out _ C3.out).mono ?_; rintro e w5 ⟨ao, cap, rfl, I5, L5, B5⟩; obtain ⟨d0, d1, d2, d3, d4, d5⟩ := (D3.out.keep B5 D3.out.lt).cells; have HB5 := Lib.hid B5; have HI5 := Lib.hid I5; have HL5 : Hid (∀ a, ao = some a → a.block ≠ w.heap.size + 1) := fun a ha => by { have h1 := L5 a ha; have h2 := R3.out.lt; omega }; have HLO5 : Hid (∀ a, ao = some a → w.heap.size ≤ a.block) := fun a ha => by { have h1 := L5 a ha; have h2 := C3.out.size; omega }; have HC5 := Lib.hid (C3.out.trans (B5.mono C3.out.size)); have R5 := R3.out.keep B5 R3.out.lt; have HR5 := Lib.hid R5; have lt5 := R5.lt; obtain ⟨⟨x0, x1, x2, x3⟩, ⟨z0, z1, z2, z3⟩⟩ := R5.cells; clear R5 B5 I5 L5))
  rename_i hS
  clear hS d0 d1 d2 d3 d4 d5 c0 c1 c2 c3 c4 c5
  have HE := Lib.hid (rep_stored (c' := cd) (n' := vr) (d' := d) HR5.out (.slice ao m cap)).cells.1
  have HB := stored_besides w5 (w.heap.size + 1) cd vr d (.slice ao m cap)
  have HF := Lib.hid ((HI5.out.besides (Nat.le_refl _) HB (fun ao' n' cap' h a ha => by cases h; exact HL5.out a ha)).mono HB.size)
  have HG := Lib.hid (stored_below HC5.out (Nat.le_succ _) cd vr d (.slice ao m cap))
  clear HB
  go_wp2
  obtain ⟨e0, e1, e2, e3⟩ := HE.out
  unfold stored at e0 e1 e2 e3
  refine bodyPost_ret (v := .tuple #[.agg #[.int .i64 cd, .int .i64 vr, .string d, .slice ao m cap], .int .i64 0]) (by simp [results, Try.results69, go_sem, e0, e1, e2, e3]) rfl ⟨ao, cap, rfl, HF.out, HLO5.out, HG.out⟩

theorem sask_yes (b : Nat) (s : StoV) (N : Nat) (cl sq kd id mt : Int) (dt : ByteArray) (c r : Int) (d : ByteArray) (l : List Int) (m : Nat) (HA : Hid (askV (s.res id.toNat) kd mt = ⟨c, r, d, l⟩)) (hlm : l.length = m) (hd : dt.size ≤ maxLen) (hq : ReqV.asks ⟨cl, sq, kd, id, mt, dt⟩) (hf : Fit s N) (w : World) (h : Sto layP w b s) :
    Calls Try.prog 69 #[.pointer (some ⟨b, 0, none⟩), .agg #[.int .i64 cl, .int .i64 sq, .int .i64 kd, .int .i64 id, .int .i64 mt, .string dt]] w (AskLo l m c r d w) := by
  have hd' : dt.size ≤ 9223372036854775807 := by unfold maxLen at hd; omega
  obtain ⟨hm, hw⟩ := hq
  have HM : Hid (∀ u, Calls Try.prog 59 #[.agg #[.int .i64 cl, .int .i64 sq, .int .i64 kd, .int .i64 id, .int .i64 mt, .string dt]] u fun e w' => e = .returned (.bool true) ∧ Below u.heap.size u w') :=
    fun u => mayreq_r cl sq kd id mt dt hd' true (decide_eq_true hm).symm u
  have hm' := hm
  unfold ReqV.may at hm'
  simp only at hm' hw
  have HW : Hid (∀ u, Calls Try.prog 60 #[.agg #[.int .i64 cl, .int .i64 sq, .int .i64 kd, .int .i64 id, .int .i64 mt, .string dt]] u fun e w' => e = .returned (.bool false) ∧ Below u.heap.size u w') := by
    intro u
    have h := writes_any cl sq kd id mt dt u
    rwa [decide_eq_false (show ¬ (1 ≤ kd ∧ kd ≤ 3) by omega)] at h
  obtain ⟨i, rfl⟩ : ∃ i : Nat, id = i := ⟨id.toNat, by omega⟩
  have hi : i < 32 := by omega
  have ha := HA.out
  simp only [Int.toNat_natCast] at ha
  obtain ⟨ar, cr, hcr, hvr⟩ := sto_res h i hi
  exact sask_lo b i (s.res i) cl sq kd mt dt l m c r d w hi h.lt hlm ar _ cr hcr hvr HM HW (fun u => key_r cl sq kd i mt dt hd' i (show _ = _ from (if_pos hm).symm) u)
    (fun u v hv => ask_r v (s.res i) _ cl sq kd i mt dt c r d l (show _ = _ from ha) u hv (Nat.le_refl _) (by have := (hf.res i hi).1; omega))

theorem Ints.apart {w w' : World} {R : Nat} {ao : Option Addr} {m cap : Nat} {l : List Int} (h : Ints w w.heap.size (.slice ao m cap) l) (hb : Besides R w w') (hne : l ≠ [] → ∀ a, ao = some a → a.block ≠ R) : Ints w' w'.heap.size (.slice ao m cap) l := by
  obtain ⟨ao', cap', he, h1, h2, h3, h4⟩ := h
  simp only [Value.slice.injEq] at he
  obtain ⟨rfl, rfl, rfl⟩ := he
  refine ⟨ao, cap, rfl, h1, h2, h3, fun hl => ?_⟩
  obtain ⟨c, off, rfl, hcB, hc⟩ := h4 hl
  exact ⟨c, off, rfl, Nat.lt_of_lt_of_le hcB hb.size, fun j hj => (hb.cell (p := ⟨c, off + j, Option.none⟩) (show c < _ by omega) (show c ≠ R from hne hl _ rfl)).trans (hc j hj)⟩
theorem Ints.blk {w : World} {ao : Option Addr} {m cap : Nat} {l : List Int} {B : Nat} (h : Ints w B (.slice ao m cap) l) : l ≠ [] → ∀ a, ao = some a → a.block < B := by
  obtain ⟨ao', cap', he, h1, h2, h3, h4⟩ := h
  simp only [Value.slice.injEq] at he
  obtain ⟨rfl, rfl, rfl⟩ := he
  intro hl a ha
  obtain ⟨c, off, rfl, hcB, hc⟩ := h4 hl
  cases ha
  exact hcB

/-- What Read tells. -/
def ReadR (l : List Int) (m : Nat) (c r : Int) (d : ByteArray) (at_ x : Int) (w : World) (e : Ending) (w' : World) : Prop :=
  ∃ ao cap, e = .returned (.tuple #[.agg #[.int .i64 c, .int .i64 r, .string d, .slice ao m cap], .int .i64 at_, .int .i64 x]) ∧ Ints w' w'.heap.size (.slice ao m cap) l ∧ (∀ a, ao = some a → w.heap.size ≤ a.block) ∧ Below w.heap.size w w'

section
variable {n : Nat} {w u : World} {g : Nat} {q : Int} {L : List ReqV} {c : Nat} {S : Nat → Prop}
set_option maxRecDepth 100000 in
set_option maxHeartbeats 2000000 in
theorem dread_yes (H : GLo n w g q L c S u) (hL : L.length ≤ 100000) (cl sq kd mt : Int) (i : Nat) (dt : ByteArray) (hd : dt.size ≤ maxLen) (hq : ReqV.asks ⟨cl, sq, kd, i, mt, dt⟩) (hc : cleanV L c i = true)
    (cd vr : Int) (d : ByteArray) (l : List Int) (m : Nat) (HA : askV ((stoOf q (L.take c)).res i) kd mt = ⟨cd, vr, d, l⟩) (hlm : l.length = m) :
    Calls Try.prog 27 #[.pointer (some ⟨g, 0, none⟩), .agg #[.int .i64 cl, .int .i64 sq, .int .i64 kd, .int .i64 i, .int .i64 mt, .string dt]] u (ReadR l m cd vr d c 0 u) := by
  have hok := H.ok
  have hfit : Fit (stoOf q (L.take c)) c := by
    have h := stoOf_fit hok.2.2.1 hok.2.2.2 (L.take c)
    rwa [List.length_take, Nat.min_eq_left hok.2.1] at h
  have hd' : dt.size ≤ 9223372036854775807 := by unfold maxLen at hd; omega
  have hm := hq.1
  have hw := hq.2
  have HM : Hid (∀ u, Calls Try.prog 59 #[.agg #[.int .i64 cl, .int .i64 sq, .int .i64 kd, .int .i64 i, .int .i64 mt, .string dt]] u fun e w' => e = .returned (.bool true) ∧ Below u.heap.size u w') :=
    fun u => mayreq_r cl sq kd i mt dt hd' true (decide_eq_true hm).symm u
  have HW : Hid (∀ u, Calls Try.prog 60 #[.agg #[.int .i64 cl, .int .i64 sq, .int .i64 kd, .int .i64 i, .int .i64 mt, .string dt]] u fun e w' => e = .returned (.bool false) ∧ Below u.heap.size u w') := by
    intro u
    have h := writes_any cl sq kd i mt dt u
    rwa [decide_eq_false (show ¬ (1 ≤ kd ∧ kd ≤ 3) by simp only at hw; omega)] at h
  have HY : Hid (∀ u, Calls Try.prog 62 #[.agg #[.int .i64 cl, .int .i64 sq, .int .i64 kd, .int .i64 i, .int .i64 mt, .string dt]] u fun e w' => e = .returned (.int .i64 i) ∧ Below u.heap.size u w') := fun u => key_r cl sq kd i mt dt hd' i (show _ = _ from (if_pos hm).symm) u
  have HCl : Hid (∀ v, Below u.heap.size u v → Calls Try.prog 30 #[.pointer (some ⟨g, 0, none⟩), .int .i64 (i : Int)] v fun e w' => e = .returned (.bool true) ∧ v = w') := fun v hv => dclean_r (H.on hv) i _ hc
  have HCo : Hid (∀ v, Below u.heap.size u v → Calls Try.prog 16 #[.pointer (some ⟨g, 0, none⟩)] v fun e w' => e = .returned (.int .i64 c) ∧ v = w') := fun v hv => (H.on hv).com
  obtain ⟨sv, hsv⟩ : ∃ s, s = stoOf q (L.take c) := ⟨_, rfl⟩
  rw [← hsv] at HA hfit
  have HSt : Hid (∀ v, Below u.heap.size u v → Calls Try.prog 24 #[.pointer (some ⟨g, 0, none⟩)] v fun e w' => e = .returned (.pointer (some ⟨v.heap.size, 0, none⟩)) ∧ Sto layP w' v.heap.size sv ∧ Below v.heap.size v w') := fun v hv => by rw [hsv]; exact (H.on hv).store hL
  have HAs : Hid (∀ b v, Sto layP v b sv → Calls Try.prog 69 #[.pointer (some ⟨b, 0, none⟩), .agg #[.int .i64 cl, .int .i64 sq, .int .i64 kd, .int .i64 i, .int .i64 mt, .string dt]] v (AskLo l m cd vr d v)) := fun b v hv =>
    sask_yes b sv c cl sq kd i mt dt cd vr d l m (show _ = _ from by rw [Int.toNat_natCast]; exact HA) hlm hd hq hfit v hv
  clear hsv HA hfit hok hd' hm hw hq hc hd hL hlm H
  obtain ⟨B, hB⟩ : ∃ B, B = u.heap.size := ⟨_, rfl⟩
  obtain ⟨u0, hu0⟩ : ∃ u0, u0 = (u.alloc (.cells #[.int .i64 cl, .int .i64 sq, .int .i64 kd, .int .i64 i, .int .i64 mt, .string dt] 34)).alloc (.cells #[.int .i64 0, .int .i64 0, .string ⟨#[]⟩, .slice none 0 0] 48) := ⟨_, rfl⟩
  have hz0 : u0.heap.size = B + 2 := by rw [hu0, hB]; simp
  have hb0 : Below u.heap.size u u0 := by rw [hu0]; exact ((Below.refl _ u).alloc (Nat.le_refl _) _).alloc (by simp) _
  have hr0 : RepAt u0 (B + 1) 0 0 ⟨#[]⟩ (.slice none 0 0) := by rw [hu0, hB]; exact RepAt.new1 u _ 0 0 ⟨#[]⟩ (.slice none 0 0)
  have hq0 : ReqB u0 B cl sq kd i mt dt := by rw [hu0, hB]; exact (ReqB.fresh u cl sq kd i mt dt 34).keep ((Below.refl (u.heap.size + 1) _).alloc (by simp) _) (by omega)
  have HK : Hid (∀ v, Below u0.heap.size u0 v → Below u.heap.size u v ∧ RepAt v (B + 1) 0 0 ⟨#[]⟩ (.slice none 0 0) ∧ ReqB v B cl sq kd i mt dt) := fun v hv => ⟨hb0.trans (hv.mono hb0.size), hr0.keep hv hr0.lt, hq0.keep hv hq0.lt⟩
  have HU := Lib.hid hu0
  have HBB := Lib.hid hB
  have HZ := Lib.hid hz0
  clear hu0 hB hz0 hb0 hr0 hq0
  go_enter Try.func27, Try.ntmps27
  go_wp2_with fail
  rw [← HU.out, ← HBB.out]
  obtain ⟨_, _, q0⟩ := HK.out u0 (Below.refl _ _)
  obtain ⟨c0, c1, c2, c3, c4, c5⟩ := q0.cells
  refine (HM.out _).mono ?_
  rintro e w1 ⟨rfl, b1⟩
  have B1 := Lib.hid b1
  clear b1 c0 c1 c2 c3 c4 c5 q0
  obtain ⟨c0, c1, c2, c3, c4, c5⟩ := (HK.out w1 B1.out).2.2.cells
  go_wp2_with fail
  refine (HW.out _).mono ?_
  rintro e w2 ⟨rfl, b2⟩
  have B2 := Lib.hid (B1.out.trans (b2.mono B1.out.size))
  clear b2 B1 c0 c1 c2 c3 c4 c5
  obtain ⟨c0, c1, c2, c3, c4, c5⟩ := (HK.out w2 B2.out).2.2.cells
  go_wp2_with fail
  refine (HY.out _).mono ?_
  rintro e w3 ⟨rfl, b3⟩
  have B3 := Lib.hid (B2.out.trans (b3.mono B2.out.size))
  clear b3 B2 c0 c1 c2 c3 c4 c5
  go_wp2_with fail
  refine (HCl.out _ (HK.out _ B3.out).1).mono ?_
  rintro e w4 ⟨rfl, rfl⟩
  go_upto_region 5 with fail
  go_cut [7, 8] (fun s7 s8 wc => ∃ (D : Nat) (ao : Option Addr) (cap : Nat), s7 = .pointer (some ⟨D, 0, none⟩) ∧ s8 = .int .i64 0 ∧ Hid (RepAt wc D cd vr d (.slice ao m cap) ∧ Ints wc wc.heap.size (.slice ao m cap) l ∧ (∀ a, ao = some a → w3.heap.size ≤ a.block) ∧ w3.heap.size ≤ D ∧ Below w3.heap.size w3 wc))
  case first =>
    refine wp_region_held_drew (S := fun v => Below w3.heap.size w3 v) (by kernel_rfl) (⟨rfl, rfl, rfl, Nat.le_refl _, fun _ _ => rfl⟩) (fun hHeld => ?_)
    have Ay0 : Hid (Below w3.heap.size w3 w3.drew) := hHeld
    obtain ⟨y0, hy0⟩ : ∃ y, y = w3.drew := ⟨_, rfl⟩
    rw [← hy0] at hHeld Ay0 ⊢
    clear hy0
    first
      | (refine held_take 0 28 (v := ?_) rfl rfl (by kernel_rfl) (by kernel_rfl) (by kernel_rfl) (fun _ _ _ h => h) (by assumption) (by rfl) ?_ ?_; rotate_left; (focus (intro w hSw; skip; go_simp <;> with_reducible rfl)))
      | refine held_pass 0 28 rfl rfl (by kernel_rfl) (by kernel_rfl) (by kernel_rfl) (fun _ _ _ h => h) (by assumption) (by rfl) ?_
    simp only [Act.put, List.setIfInBounds_toArray, List.set_cons_zero, List.set_cons_succ]
    first
      | (refine held_take 2 30 (v := ?_) rfl rfl (by kernel_rfl) (by kernel_rfl) (by kernel_rfl) (fun _ _ _ h => h) (by assumption) (by rfl) ?_ ?_; rotate_left; (focus (intro w hSw; (obtain ⟨_, _, qq⟩ := HK.out _ (B3.out.trans (hSw.mono B3.out.size)); obtain ⟨q0, q1, q2, q3, q4, q5⟩ := qq.cells); go_simp <;> with_reducible rfl)))
      | refine held_pass 2 30 rfl rfl (by kernel_rfl) (by kernel_rfl) (by kernel_rfl) (fun _ _ _ h => h) (by assumption) (by rfl) ?_
    simp only [Act.put, List.setIfInBounds_toArray, List.set_cons_zero, List.set_cons_succ]
    refine wpAnyH_ready (rs := [1, 7]) (by kernel_rfl) (by simp) (AllReadyH.cons rfl (fun K hK => ?_) (AllReadyH.cons rfl (fun K hK => ?_) AllReadyH.nil))
    · try simp only [Go.wp_at_succ, Go.wp_at_zero]
      go_simp
      go_at_call 24
      (with_reducible refine (HSt.out _ (HK.out _ (B3.out.trans (Ay0.out.mono B3.out.size))).1).mono ?_)
      obtain ⟨b5, hb5⟩ : ∃ b, b = y0.heap.size := ⟨_, rfl⟩
      rw [← hb5]
      rintro e y1 ⟨rfl, t, hb⟩
      rw [hb5] at hb
      have Ay1 := Lib.hid (Ay0.out.trans (hb.mono Ay0.out.size))
      have Ty1 := Lib.hid t
      clear hb t hb5
      refine hK.out _ _ Ay1.out (fun hHeld => ?_)
      clear hK K
      try simp only [Act.put, List.setIfInBounds_toArray, List.set_cons_zero, List.set_cons_succ]
      refine wpAnyH_ready (rs := [3, 7]) (by kernel_rfl) (by simp) (AllReadyH.cons rfl (fun K hK => ?_) (AllReadyH.cons rfl (fun K hK => ?_) AllReadyH.nil))
      · try simp only [Go.wp_at_succ, Go.wp_at_zero]
        go_simp
        go_at_call 69
        (with_reducible refine (HAs.out _ _ Ty1.out).mono ?_)
        rintro e y2 ⟨ao, cap, rfl, hi, hlo, hb⟩
        have Ay2 := Lib.hid (Ay1.out.trans (hb.mono Ay1.out.size))
        have Iy2 := Lib.hid hi
        have HAL : Hid (l ≠ [] → ∀ a, ao = some a → a.block < y2.heap.size) := hi.blk
        have LO : Hid (∀ a, ao = some a → w3.heap.size ≤ a.block) := fun a ha => Nat.le_trans Ay1.out.size (hlo a ha)
        clear hb hi hlo
        refine hK.out _ _ Ay2.out (fun hHeld => ?_)
        clear hK K
        try simp only [Act.put, List.setIfInBounds_toArray, List.set_cons_zero, List.set_cons_succ]
        first
          | (refine held_take 4 27 (v := ?_) rfl rfl (by kernel_rfl) (by kernel_rfl) (by kernel_rfl) (fun _ _ _ h => h) (by assumption) (by rfl) ?_ ?_; rotate_left; (focus (intro w hSw; skip; go_simp <;> with_reducible rfl)))
          | refine held_pass 4 27 rfl rfl (by kernel_rfl) (by kernel_rfl) (by kernel_rfl) (fun _ _ _ h => h) (by assumption) (by rfl) ?_
        simp only [Act.put, List.setIfInBounds_toArray, List.set_cons_zero, List.set_cons_succ]
        first
          | (refine held_take 5 32 (v := ?_) rfl rfl (by kernel_rfl) (by kernel_rfl) (by kernel_rfl) (fun _ _ _ h => h) (by assumption) (by rfl) ?_ ?_; rotate_left; (focus (intro w hSw; skip; go_simp <;> with_reducible rfl)))
          | refine held_pass 5 32 rfl rfl (by kernel_rfl) (by kernel_rfl) (by kernel_rfl) (fun _ _ _ h => h) (by assumption) (by rfl) ?_
        simp only [Act.put, List.setIfInBounds_toArray, List.set_cons_zero, List.set_cons_succ]
        first
          | (refine held_take 6 33 (v := ?_) rfl rfl (by kernel_rfl) (by kernel_rfl) (by kernel_rfl) (fun _ _ _ h => h) (by assumption) (by rfl) ?_ ?_; rotate_left; (focus (intro w hSw; skip; go_simp <;> with_reducible rfl)))
          | refine held_pass 6 33 rfl rfl (by kernel_rfl) (by kernel_rfl) (by kernel_rfl) (fun _ _ _ h => h) (by assumption) (by rfl) ?_
        simp only [Act.put, List.setIfInBounds_toArray, List.set_cons_zero, List.set_cons_succ]
        refine wpAnyH_ready (rs := [7]) (by kernel_rfl) (by simp) (AllReadyH.cons rfl (fun K hK => ?_) AllReadyH.nil)
        try simp only [Go.wp_at_succ, Go.wp_at_zero]
        go_simp
        obtain ⟨y3, hN⟩ : ∃ y, y = y2.alloc (.cells #[.int .i64 0, .int .i64 0, .string ⟨#[]⟩, .slice none 0 0] 48) := ⟨_, rfl⟩
        obtain ⟨D, hD⟩ : ∃ D, D = y2.heap.size := ⟨_, rfl⟩
        rw [← hN, ← hD]
        have Ay3 : Hid (Below w3.heap.size w3 y3) := by rw [hN]; exact Ay2.out.alloc Ay2.out.size _
        have Ry3 : Hid (RepAt y3 D 0 0 ⟨#[]⟩ (.slice none 0 0)) := by rw [hN, hD]; exact RepAt.new _ _ _ _ _
        have HD : Hid (w3.heap.size ≤ D) := by rw [hD]; exact Ay2.out.size
        have hbN : Below y2.heap.size y2 y3 := by rw [hN]; exact (Below.refl _ _).alloc (Nat.le_refl _) _
        have Iy3 := Lib.hid ((Iy2.out.keep hbN).mono hbN.size)
        have Ly3 : Hid (l ≠ [] → ∀ a, ao = some a → a.block ≠ D) := fun hl a ha => by rw [hD]; have := HAL.out hl a ha; omega
        clear hbN
        clear hN hD
        refine hK.out _ _ Ay3.out (fun hHeld => ?_)
        clear hK K
        try simp only [Act.put, List.setIfInBounds_toArray, List.set_cons_zero, List.set_cons_succ]
        obtain ⟨⟨x0, x1, x2, x3⟩, ⟨z0, z1, z2, z3⟩⟩ := Ry3.out.cells
        have lt5 := Ry3.out.lt
        refine wpAnyH_ready (rs := [8]) (by kernel_rfl) (by simp) (AllReadyH.cons rfl (fun K hK => ?_) AllReadyH.nil)
        try simp only [Go.wp_at_succ, Go.wp_at_zero]
        go_simp
        refine hK.out _ _ (stored_below Ay3.out HD.out cd vr d (.slice ao m cap)) (fun hHeld => ?_)
        clear hK K x0 x1 x2 x3 z0 z1 z2 z3 lt5
        try simp only [Act.put, List.setIfInBounds_toArray, List.set_cons_zero, List.set_cons_succ]
        first
          | (refine held_take 9 8 (v := ?_) rfl rfl (by kernel_rfl) (by kernel_rfl) (by kernel_rfl) (fun _ _ _ h => h) (by assumption) (by rfl) ?_ ?_; rotate_left; (focus (intro w hSw; skip; go_simp <;> with_reducible rfl)))
          | refine held_pass 9 8 rfl rfl (by kernel_rfl) (by kernel_rfl) (by kernel_rfl) (fun _ _ _ h => h) (by assumption) (by rfl) ?_
        simp only [Act.put, List.setIfInBounds_toArray, List.set_cons_zero, List.set_cons_succ]
        refine wpAnyH_done (by kernel_rfl) ?_ _
        go_wp2
        go_meet
        exact ⟨D, ao, cap, rfl, rfl, rep_stored Ry3.out _, Iy3.out.apart (stored_besides _ D cd vr d (.slice ao m cap)) Ly3.out, LO.out, HD.out, stored_below Ay3.out HD.out cd vr d (.slice ao m cap)⟩
      · try simp only [Go.wp_at_succ, Go.wp_at_zero]
        go_simp
        obtain ⟨y2, hN⟩ : ∃ y, y = y1.alloc (.cells #[.int .i64 0, .int .i64 0, .string ⟨#[]⟩, .slice none 0 0] 48) := ⟨_, rfl⟩
        obtain ⟨D, hD⟩ : ∃ D, D = y1.heap.size := ⟨_, rfl⟩
        rw [← hN, ← hD]
        have Ay2 : Hid (Below w3.heap.size w3 y2) := by rw [hN]; exact Ay1.out.alloc Ay1.out.size _
        have Ry2 : Hid (RepAt y2 D 0 0 ⟨#[]⟩ (.slice none 0 0)) := by rw [hN, hD]; exact RepAt.new _ _ _ _ _
        have HD : Hid (w3.heap.size ≤ D) := by rw [hD]; exact Ay1.out.size
        have hbN : Below y1.heap.size y1 y2 := by rw [hN]; exact (Below.refl _ _).alloc (Nat.le_refl _) _
        have Ty2 := Lib.hid (Ty1.out.on hbN)
        clear hbN
        clear hN hD
        refine hK.out _ _ Ay2.out (fun hHeld => ?_)
        clear hK K
        try simp only [Act.put, List.setIfInBounds_toArray, List.set_cons_zero, List.set_cons_succ]
        refine wpAnyH_ready (rs := [3]) (by kernel_rfl) (by simp) (AllReadyH.cons rfl (fun K hK => ?_) AllReadyH.nil)
        try simp only [Go.wp_at_succ, Go.wp_at_zero]
        go_simp
        go_at_call 69
        (with_reducible refine (HAs.out _ _ Ty2.out).mono ?_)
        rintro e y3 ⟨ao, cap, rfl, hi, hlo, hb⟩
        have Ay3 := Lib.hid (Ay2.out.trans (hb.mono Ay2.out.size))
        have Iy3 := Lib.hid hi
        have Ry3 := Lib.hid (Ry2.out.keep hb Ry2.out.lt)
        have Ly3 : Hid (l ≠ [] → ∀ a, ao = some a → a.block ≠ D) := fun _ a ha => by have := hlo a ha; have := Ry2.out.lt; omega
        have LO : Hid (∀ a, ao = some a → w3.heap.size ≤ a.block) := fun a ha => Nat.le_trans Ay2.out.size (hlo a ha)
        clear hb hi hlo
        refine hK.out _ _ Ay3.out (fun hHeld => ?_)
        clear hK K
        try simp only [Act.put, List.setIfInBounds_toArray, List.set_cons_zero, List.set_cons_succ]
        first
          | (refine held_take 4 27 (v := ?_) rfl rfl (by kernel_rfl) (by kernel_rfl) (by kernel_rfl) (fun _ _ _ h => h) (by assumption) (by rfl) ?_ ?_; rotate_left; (focus (intro w hSw; skip; go_simp <;> with_reducible rfl)))
          | refine held_pass 4 27 rfl rfl (by kernel_rfl) (by kernel_rfl) (by kernel_rfl) (fun _ _ _ h => h) (by assumption) (by rfl) ?_
        simp only [Act.put, List.setIfInBounds_toArray, List.set_cons_zero, List.set_cons_succ]
        first
          | (refine held_take 5 32 (v := ?_) rfl rfl (by kernel_rfl) (by kernel_rfl) (by kernel_rfl) (fun _ _ _ h => h) (by assumption) (by rfl) ?_ ?_; rotate_left; (focus (intro w hSw; skip; go_simp <;> with_reducible rfl)))
          | refine held_pass 5 32 rfl rfl (by kernel_rfl) (by kernel_rfl) (by kernel_rfl) (fun _ _ _ h => h) (by assumption) (by rfl) ?_
        simp only [Act.put, List.setIfInBounds_toArray, List.set_cons_zero, List.set_cons_succ]
        first
          | (refine held_take 6 33 (v := ?_) rfl rfl (by kernel_rfl) (by kernel_rfl) (by kernel_rfl) (fun _ _ _ h => h) (by assumption) (by rfl) ?_ ?_; rotate_left; (focus (intro w hSw; skip; go_simp <;> with_reducible rfl)))
          | refine held_pass 6 33 rfl rfl (by kernel_rfl) (by kernel_rfl) (by kernel_rfl) (fun _ _ _ h => h) (by assumption) (by rfl) ?_
        simp only [Act.put, List.setIfInBounds_toArray, List.set_cons_zero, List.set_cons_succ]
        obtain ⟨⟨x0, x1, x2, x3⟩, ⟨z0, z1, z2, z3⟩⟩ := Ry3.out.cells
        have lt5 := Ry3.out.lt
        refine wpAnyH_ready (rs := [8]) (by kernel_rfl) (by simp) (AllReadyH.cons rfl (fun K hK => ?_) AllReadyH.nil)
        try simp only [Go.wp_at_succ, Go.wp_at_zero]
        go_simp
        refine hK.out _ _ (stored_below Ay3.out HD.out cd vr d (.slice ao m cap)) (fun hHeld => ?_)
        clear hK K x0 x1 x2 x3 z0 z1 z2 z3 lt5
        try simp only [Act.put, List.setIfInBounds_toArray, List.set_cons_zero, List.set_cons_succ]
        first
          | (refine held_take 9 8 (v := ?_) rfl rfl (by kernel_rfl) (by kernel_rfl) (by kernel_rfl) (fun _ _ _ h => h) (by assumption) (by rfl) ?_ ?_; rotate_left; (focus (intro w hSw; skip; go_simp <;> with_reducible rfl)))
          | refine held_pass 9 8 rfl rfl (by kernel_rfl) (by kernel_rfl) (by kernel_rfl) (fun _ _ _ h => h) (by assumption) (by rfl) ?_
        simp only [Act.put, List.setIfInBounds_toArray, List.set_cons_zero, List.set_cons_succ]
        refine wpAnyH_done (by kernel_rfl) ?_ _
        go_wp2
        go_meet
        exact ⟨D, ao, cap, rfl, rfl, rep_stored Ry3.out _, Iy3.out.apart (stored_besides _ D cd vr d (.slice ao m cap)) Ly3.out, LO.out, HD.out, stored_below Ay3.out HD.out cd vr d (.slice ao m cap)⟩
    · try simp only [Go.wp_at_succ, Go.wp_at_zero]
      go_simp
      obtain ⟨y1, hN⟩ : ∃ y, y = y0.alloc (.cells #[.int .i64 0, .int .i64 0, .string ⟨#[]⟩, .slice none 0 0] 48) := ⟨_, rfl⟩
      obtain ⟨D, hD⟩ : ∃ D, D = y0.heap.size := ⟨_, rfl⟩
      rw [← hN, ← hD]
      have Ay1 : Hid (Below w3.heap.size w3 y1) := by rw [hN]; exact Ay0.out.alloc Ay0.out.size _
      have Ry1 : Hid (RepAt y1 D 0 0 ⟨#[]⟩ (.slice none 0 0)) := by rw [hN, hD]; exact RepAt.new _ _ _ _ _
      have HD : Hid (w3.heap.size ≤ D) := by rw [hD]; exact Ay0.out.size
      clear hN hD
      refine hK.out _ _ Ay1.out (fun hHeld => ?_)
      clear hK K
      try simp only [Act.put, List.setIfInBounds_toArray, List.set_cons_zero, List.set_cons_succ]
      refine wpAnyH_ready (rs := [1]) (by kernel_rfl) (by simp) (AllReadyH.cons rfl (fun K hK => ?_) AllReadyH.nil)
      try simp only [Go.wp_at_succ, Go.wp_at_zero]
      go_simp
      go_at_call 24
      (with_reducible refine (HSt.out _ (HK.out _ (B3.out.trans (Ay1.out.mono B3.out.size))).1).mono ?_)
      obtain ⟨b5, hb5⟩ : ∃ b, b = y1.heap.size := ⟨_, rfl⟩
      rw [← hb5]
      rintro e y2 ⟨rfl, t, hb⟩
      rw [hb5] at hb
      have Ay2 := Lib.hid (Ay1.out.trans (hb.mono Ay1.out.size))
      have Ty2 := Lib.hid t
      have Ry2 := Lib.hid (Ry1.out.keep hb Ry1.out.lt)
      clear hb t hb5
      refine hK.out _ _ Ay2.out (fun hHeld => ?_)
      clear hK K
      try simp only [Act.put, List.setIfInBounds_toArray, List.set_cons_zero, List.set_cons_succ]
      refine wpAnyH_ready (rs := [3]) (by kernel_rfl) (by simp) (AllReadyH.cons rfl (fun K hK => ?_) AllReadyH.nil)
      try simp only [Go.wp_at_succ, Go.wp_at_zero]
      go_simp
      go_at_call 69
      (with_reducible refine (HAs.out _ _ Ty2.out).mono ?_)
      rintro e y3 ⟨ao, cap, rfl, hi, hlo, hb⟩
      have Ay3 := Lib.hid (Ay2.out.trans (hb.mono Ay2.out.size))
      have Iy3 := Lib.hid hi
      have Ry3 := Lib.hid (Ry2.out.keep hb Ry2.out.lt)
      have Ly3 : Hid (l ≠ [] → ∀ a, ao = some a → a.block ≠ D) := fun _ a ha => by have := hlo a ha; have := Ry2.out.lt; omega
      have LO : Hid (∀ a, ao = some a → w3.heap.size ≤ a.block) := fun a ha => Nat.le_trans Ay2.out.size (hlo a ha)
      clear hb hi hlo
      refine hK.out _ _ Ay3.out (fun hHeld => ?_)
      clear hK K
      try simp only [Act.put, List.setIfInBounds_toArray, List.set_cons_zero, List.set_cons_succ]
      first
        | (refine held_take 4 27 (v := ?_) rfl rfl (by kernel_rfl) (by kernel_rfl) (by kernel_rfl) (fun _ _ _ h => h) (by assumption) (by rfl) ?_ ?_; rotate_left; (focus (intro w hSw; skip; go_simp <;> with_reducible rfl)))
        | refine held_pass 4 27 rfl rfl (by kernel_rfl) (by kernel_rfl) (by kernel_rfl) (fun _ _ _ h => h) (by assumption) (by rfl) ?_
      simp only [Act.put, List.setIfInBounds_toArray, List.set_cons_zero, List.set_cons_succ]
      first
        | (refine held_take 5 32 (v := ?_) rfl rfl (by kernel_rfl) (by kernel_rfl) (by kernel_rfl) (fun _ _ _ h => h) (by assumption) (by rfl) ?_ ?_; rotate_left; (focus (intro w hSw; skip; go_simp <;> with_reducible rfl)))
        | refine held_pass 5 32 rfl rfl (by kernel_rfl) (by kernel_rfl) (by kernel_rfl) (fun _ _ _ h => h) (by assumption) (by rfl) ?_
      simp only [Act.put, List.setIfInBounds_toArray, List.set_cons_zero, List.set_cons_succ]
      first
        | (refine held_take 6 33 (v := ?_) rfl rfl (by kernel_rfl) (by kernel_rfl) (by kernel_rfl) (fun _ _ _ h => h) (by assumption) (by rfl) ?_ ?_; rotate_left; (focus (intro w hSw; skip; go_simp <;> with_reducible rfl)))
        | refine held_pass 6 33 rfl rfl (by kernel_rfl) (by kernel_rfl) (by kernel_rfl) (fun _ _ _ h => h) (by assumption) (by rfl) ?_
      simp only [Act.put, List.setIfInBounds_toArray, List.set_cons_zero, List.set_cons_succ]
      obtain ⟨⟨x0, x1, x2, x3⟩, ⟨z0, z1, z2, z3⟩⟩ := Ry3.out.cells
      have lt5 := Ry3.out.lt
      refine wpAnyH_ready (rs := [8]) (by kernel_rfl) (by simp) (AllReadyH.cons rfl (fun K hK => ?_) AllReadyH.nil)
      try simp only [Go.wp_at_succ, Go.wp_at_zero]
      go_simp
      refine hK.out _ _ (stored_below Ay3.out HD.out cd vr d (.slice ao m cap)) (fun hHeld => ?_)
      clear hK K x0 x1 x2 x3 z0 z1 z2 z3 lt5
      try simp only [Act.put, List.setIfInBounds_toArray, List.set_cons_zero, List.set_cons_succ]
      first
        | (refine held_take 9 8 (v := ?_) rfl rfl (by kernel_rfl) (by kernel_rfl) (by kernel_rfl) (fun _ _ _ h => h) (by assumption) (by rfl) ?_ ?_; rotate_left; (focus (intro w hSw; skip; go_simp <;> with_reducible rfl)))
        | refine held_pass 9 8 rfl rfl (by kernel_rfl) (by kernel_rfl) (by kernel_rfl) (fun _ _ _ h => h) (by assumption) (by rfl) ?_
      simp only [Act.put, List.setIfInBounds_toArray, List.set_cons_zero, List.set_cons_succ]
      refine wpAnyH_done (by kernel_rfl) ?_ _
      go_wp2
      go_meet
      exact ⟨D, ao, cap, rfl, rfl, rep_stored Ry3.out _, Iy3.out.apart (stored_besides _ D cd vr d (.slice ao m cap)) Ly3.out, LO.out, HD.out, stored_below Ay3.out HD.out cd vr d (.slice ao m cap)⟩
  case rest =>
  obtain ⟨D, ao, cap, rfl, rfl, HC⟩ := hcut
  have HR := Lib.hid HC.out.1
  have HIC := Lib.hid HC.out.2.1
  have HBC := Lib.hid HC.out.2.2.2.2
  have HUC := Lib.hid (HK.out _ (B3.out.trans (HBC.out.mono B3.out.size))).1
  have HNE : Hid (D ≠ B + 1) := by
    have h1 := HC.out.2.2.2.1
    have h2 := B3.out.size
    have h3 := HZ.out
    show D ≠ B + 1
    omega
  have HNA : Hid (∀ a, ao = some a → a.block ≠ B + 1) := fun a ha => by
    have h1 := HC.out.2.2.1 a ha
    have h2 := B3.out.size
    have h3 := HZ.out
    omega
  have HLO : Hid (∀ a, ao = some a → u.heap.size ≤ a.block) := fun a ha => by
    have h1 := HC.out.2.2.1 a ha
    have h2 := (HK.out _ B3.out).1.size
    omega
  clear HC
  go_upto_region 6 with fail
  refine wp_region_held_drew (S := fun v => Below u.heap.size u v ∧ RepAt v D cd vr d (.slice ao m cap)) (by kernel_rfl) ⟨HUC.out.trans ⟨rfl, rfl, rfl, Nat.le_refl _, fun _ _ => rfl⟩, HR.out⟩ (fun hHeld => ?_)
  first
    | (refine held_take 0 34 (v := ?_) rfl rfl (by kernel_rfl) (by kernel_rfl) (by kernel_rfl) (fun _ _ _ h => h) (by assumption) (by rfl) ?_ ?_; rotate_left; (focus (intro w hSw; (obtain ⟨⟨x0, x1, x2, x3⟩, _⟩ := hSw.2.cells); go_simp <;> with_reducible rfl)))
    | refine held_pass 0 34 rfl rfl (by kernel_rfl) (by kernel_rfl) (by kernel_rfl) (fun _ _ _ h => h) (by assumption) (by rfl) ?_
  simp only [Act.put, List.setIfInBounds_toArray, List.set_cons_zero, List.set_cons_succ]
  first
    | (refine held_take 1 35 (v := ?_) rfl rfl (by kernel_rfl) (by kernel_rfl) (by kernel_rfl) (fun _ _ _ h => h) (by assumption) (by rfl) ?_ ?_; rotate_left; (focus (intro w hSw; skip; go_simp <;> with_reducible rfl)))
    | refine held_pass 1 35 rfl rfl (by kernel_rfl) (by kernel_rfl) (by kernel_rfl) (fun _ _ _ h => h) (by assumption) (by rfl) ?_
  simp only [Act.put, List.setIfInBounds_toArray, List.set_cons_zero, List.set_cons_succ]
  first
    | (refine held_take 3 37 (v := ?_) rfl rfl (by kernel_rfl) (by kernel_rfl) (by kernel_rfl) (fun _ _ _ h => h) (by assumption) (by rfl) ?_ ?_; rotate_left; (focus (intro w hSw; skip; go_simp <;> with_reducible rfl)))
    | refine held_pass 3 37 rfl rfl (by kernel_rfl) (by kernel_rfl) (by kernel_rfl) (fun _ _ _ h => h) (by assumption) (by rfl) ?_
  simp only [Act.put, List.setIfInBounds_toArray, List.set_cons_zero, List.set_cons_succ]
  refine wpAnyH_ready (rs := [2]) (by kernel_rfl) (by simp) (AllReadyH.cons rfl (fun K hK => ?_) AllReadyH.nil)
  try simp only [Go.wp_at_succ, Go.wp_at_zero]
  go_simp
  go_at_call 16
  (with_reducible refine (HCo.out _ hHeld.1).mono ?_)
  rintro e w5 ⟨rfl, rfl⟩
  refine hK.out _ _ hHeld (fun hHeld => ?_)
  clear hK K
  try simp only [Act.put, List.setIfInBounds_toArray, List.set_cons_zero, List.set_cons_succ]
  obtain ⟨wd, hwd⟩ : ∃ wd, wd = wc.drew := ⟨_, rfl⟩
  rw [← hwd] at hHeld ⊢
  have HWD : Hid (Below wc.heap.size wc wd) := by rw [hwd]; exact ⟨rfl, rfl, rfl, Nat.le_refl _, fun _ _ => rfl⟩
  have HHD := Lib.hid hHeld
  clear hwd
  have HB1 := Lib.hid (HK.out _ (B3.out.trans ((HBC.out.trans (HWD.out.mono HBC.out.size)).mono B3.out.size))).2.1
  obtain ⟨⟨x0, x1, x2, x3⟩, ⟨z0, z1, z2, z3⟩⟩ := HB1.out.cells
  have lt5 := HB1.out.lt
  have HST : Hid (Below u.heap.size u (stored wd (B + 1) cd vr d (.slice ao m cap)) ∧ RepAt (stored wd (B + 1) cd vr d (.slice ao m cap)) D cd vr d (.slice ao m cap)) := ⟨stored_below HHD.out.1 (by rw [← HBB.out]; omega) cd vr d _, HHD.out.2.besides (stored_besides _ _ _ _ _ _) HNE.out⟩
  refine wpAnyH_ready (rs := [4]) (by kernel_rfl) (by simp) (AllReadyH.cons rfl (fun K hK => ?_) AllReadyH.nil)
  try simp only [Go.wp_at_succ, Go.wp_at_zero]
  go_simp
  refine hK.out _ _ HST.out (fun hHeld => ?_)
  clear hK K x0 x1 x2 x3 z0 z1 z2 z3 lt5
  try simp only [Act.put, List.setIfInBounds_toArray, List.set_cons_zero, List.set_cons_succ]
  first
    | (refine held_take 5 5 (v := ?_) rfl rfl (by kernel_rfl) (by kernel_rfl) (by kernel_rfl) (fun _ _ _ h => h) (by assumption) (by rfl) ?_ ?_; rotate_left; (focus (intro w hSw; skip; go_simp <;> with_reducible rfl)))
    | refine held_pass 5 5 rfl rfl (by kernel_rfl) (by kernel_rfl) (by kernel_rfl) (fun _ _ _ h => h) (by assumption) (by rfl) ?_
  simp only [Act.put, List.setIfInBounds_toArray, List.set_cons_zero, List.set_cons_succ]
  first
    | (refine held_take 6 6 (v := ?_) rfl rfl (by kernel_rfl) (by kernel_rfl) (by kernel_rfl) (fun _ _ _ h => h) (by assumption) (by rfl) ?_ ?_; rotate_left; (focus (intro w hSw; skip; go_simp <;> with_reducible rfl)))
    | refine held_pass 6 6 rfl rfl (by kernel_rfl) (by kernel_rfl) (by kernel_rfl) (fun _ _ _ h => h) (by assumption) (by rfl) ?_
  simp only [Act.put, List.setIfInBounds_toArray, List.set_cons_zero, List.set_cons_succ]
  refine wpAnyH_done (by kernel_rfl) ?_ _
  clear hHeld
  have HE := Lib.hid (rep_stored (c' := cd) (n' := vr) (d' := d) HB1.out (.slice ao m cap)).cells.1
  have HF := Lib.hid (((HIC.out.keep HWD.out).mono HWD.out.size).apart (stored_besides wd (B + 1) cd vr d (.slice ao m cap)) (fun _ a ha => HNA.out a ha))
  go_wp2
  obtain ⟨e0, e1, e2, e3⟩ := HE.out
  unfold stored at e0 e1 e2 e3
  refine bodyPost_ret (v := .tuple #[.agg #[.int .i64 cd, .int .i64 vr, .string d, .slice ao m cap], .int .i64 c, .int .i64 0]) (by simp [results, Try.results27, go_sem, e0, e1, e2, e3]) rfl ⟨ao, cap, rfl, HF.out, HLO.out, HST.out.1⟩
set_option maxRecDepth 100000 in
set_option maxHeartbeats 1000000 in
theorem dread_no (H : GLo n w g q L c S u) (cl sq kd mt : Int) (i : Nat) (dt : ByteArray) (hd : dt.size ≤ maxLen) (hq : ReqV.asks ⟨cl, sq, kd, i, mt, dt⟩) (hc : cleanV L c i = false) :
    Calls Try.prog 27 #[.pointer (some ⟨g, 0, none⟩), .agg #[.int .i64 cl, .int .i64 sq, .int .i64 kd, .int .i64 i, .int .i64 mt, .string dt]] u fun e w' => e = .returned (.tuple #[.agg #[.int .i64 0, .int .i64 0, .string ⟨#[]⟩, .slice none 0 0], .int .i64 0, .int .i64 4]) ∧ Below u.heap.size u w' := by
  have hd' : dt.size ≤ 9223372036854775807 := by unfold maxLen at hd; omega
  have hm := hq.1
  have hw := hq.2
  have HM : Hid (∀ u, Calls Try.prog 59 #[.agg #[.int .i64 cl, .int .i64 sq, .int .i64 kd, .int .i64 i, .int .i64 mt, .string dt]] u fun e w' => e = .returned (.bool true) ∧ Below u.heap.size u w') :=
    fun u => mayreq_r cl sq kd i mt dt hd' true (decide_eq_true hm).symm u
  have HW : Hid (∀ u, Calls Try.prog 60 #[.agg #[.int .i64 cl, .int .i64 sq, .int .i64 kd, .int .i64 i, .int .i64 mt, .string dt]] u fun e w' => e = .returned (.bool false) ∧ Below u.heap.size u w') := by
    intro u
    have h := writes_any cl sq kd i mt dt u
    rwa [decide_eq_false (show ¬ (1 ≤ kd ∧ kd ≤ 3) by simp only at hw; omega)] at h
  have HY : Hid (∀ u, Calls Try.prog 62 #[.agg #[.int .i64 cl, .int .i64 sq, .int .i64 kd, .int .i64 i, .int .i64 mt, .string dt]] u fun e w' => e = .returned (.int .i64 i) ∧ Below u.heap.size u w') := fun u => key_r cl sq kd i mt dt hd' i (show _ = _ from (if_pos hm).symm) u
  have HCl : Hid (∀ v, Below u.heap.size u v → Calls Try.prog 30 #[.pointer (some ⟨g, 0, none⟩), .int .i64 (i : Int)] v fun e w' => e = .returned (.bool false) ∧ v = w') := fun v hv => dclean_r (H.on hv) i _ hc
  clear hd' hm hw hq hc hd H
  go_enter Try.func27, Try.ntmps27
  go_wp2_with fail
  refine (HM.out _).mono ?_
  rintro e w1 ⟨rfl, B1⟩
  have C1 : Hid (Below u.heap.size u w1) := (((Below.refl _ u).alloc (Nat.le_refl _) _).alloc (by simp) _).trans (B1.mono (by simp; omega))
  have R1 : Hid (RepAt w1 (u.heap.size + 1) 0 0 ⟨#[]⟩ (.slice none 0 0)) := RepAt.keep (RepAt.new1 u _ 0 0 ⟨#[]⟩ (.slice none 0 0)) B1 (by simp)
  have D1 : Hid (ReqB w1 u.heap.size cl sq kd i mt dt) := ((ReqB.fresh u cl sq kd i mt dt 34).keep ((Below.refl (u.heap.size + 1) _).alloc (by simp) _) (by omega)).keep B1 (by simp; omega)
  clear B1
  obtain ⟨c0, c1, c2, c3, c4, c5⟩ := D1.out.cells
  go_wp2_with fail
  refine (HW.out _).mono ?_
  rintro e w2 ⟨rfl, B2⟩
  have C2 : Hid (Below u.heap.size u w2) := C1.out.trans (B2.mono C1.out.size)
  have R2 := Lib.hid (R1.out.keep B2 R1.out.lt)
  have D2 := Lib.hid (D1.out.keep B2 D1.out.lt)
  clear B2 R1 D1 C1 c0 c1 c2 c3 c4 c5
  obtain ⟨c0, c1, c2, c3, c4, c5⟩ := D2.out.cells
  go_wp2_with fail
  refine (HY.out _).mono ?_
  rintro e w3 ⟨rfl, B3⟩
  have C3 : Hid (Below u.heap.size u w3) := C2.out.trans (B3.mono C2.out.size)
  have R3 := R2.out.keep B3 R2.out.lt
  clear B3 D2 c0 c1 c2 c3 c4 c5
  have HE := Lib.hid (rep_stored (c' := 0) (n' := 0) (d' := ⟨#[]⟩) R3 (.slice none 0 0)).cells.1
  have hlt := R3.lt
  obtain ⟨⟨d0, d1, d2, d3⟩, ⟨z0, z1, z2, z3⟩⟩ := R3.cells
  clear R3 R2
  go_wp2_with fail
  refine (HCl.out _ C3.out).mono ?_
  rintro e w4 ⟨rfl, rfl⟩
  go_wp2
  obtain ⟨e0, e1, e2, e3⟩ := HE.out
  unfold stored at e0 e1 e2 e3
  refine bodyPost_ret (v := .tuple #[.agg #[.int .i64 0, .int .i64 0, .string ⟨#[]⟩, .slice none 0 0], .int .i64 0, .int .i64 4]) (by simp [results, Try.results27, go_sem, e0, e1, e2, e3]) rfl ⟨rfl, ?_⟩
  exact stored_below C3.out (Nat.le_succ _) _ _ _ _
end
end Go.Proofs.Ytenjjgghoacboaa
